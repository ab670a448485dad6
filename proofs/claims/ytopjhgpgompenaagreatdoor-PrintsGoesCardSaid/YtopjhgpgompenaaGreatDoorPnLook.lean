/-
  Package prints: look.
-/
import Derived.Test.YtopjhgpgompenaaGreatDoorPnClo
set_option linter.unusedSimpArgs false
set_option linter.unusedVariables false
namespace Go.Proofs.YtopjhgpgompenaaGreatDoor
open Go.RowKit Sh Go.Maps Go.Extern.Stop Go.Stop Go.Extern

/-- The first place, from there on and around, whose entry fits. -/
def lookL (f : Ent → Bool) (es : List Ent) (n a : Nat) : Option Nat := ((List.range n).map (fun k => (a + k) % n)).find? (fun i => f (es.getD i noE))
def LookP (r : Option Nat) (w : World) (e : Ending) (w' : World) : Prop := match r with
  | some i => e = .returned (.tuple #[.int .i64 (i : Nat), .bool true, .nilIface]) ∧ Below w.heap.size w w'
  | none => e = .returned (.tuple #[.int .i64 0, .bool false, .nilIface]) ∧ Below w.heap.size w w'
theorem look_found {f : Ent → Bool} {es : List Ent} {n a k : Nat} (hk : k < n) (hf : f (es.getD ((a + k) % n) noE) = true) (hb : ∀ j, j < k → f (es.getD ((a + j) % n) noE) = false) : lookL f es n a = some ((a + k) % n) := by
  have hr : List.range n = List.range k ++ k :: (List.range (n - k - 1)).map (fun j => k + 1 + j) := by
    have hn : n = k + ((n - k - 1) + 1) := by omega
    obtain ⟨m, hm⟩ : ∃ m, n - k - 1 = m := ⟨_, rfl⟩
    rw [hm] at hn ⊢
    rw [hn, List.range_add, List.range_succ_eq_map]
    simp only [List.map_cons, List.map_map, Nat.add_zero]
    congr 2
    apply List.map_congr_left
    intro j _
    simp only [Function.comp]
    omega
  unfold lookL
  rw [hr, List.map_append, List.map_cons, List.find?_append, List.find?_cons]
  have hnone : ((List.range k).map (fun k => (a + k) % n)).find? (fun i => f (es.getD i noE)) = none := by
    rw [List.find?_eq_none]
    intro i hi
    obtain ⟨j, hj, rfl⟩ := List.mem_map.1 hi
    rw [hb j (List.mem_range.1 hj)]; simp
  rw [hnone]
  simp only [Option.none_or, hf]
theorem look_none {f : Ent → Bool} {es : List Ent} {n a : Nat} (hb : ∀ j, j < n → f (es.getD ((a + j) % n) noE) = false) : lookL f es n a = none := by
  unfold lookL
  rw [List.find?_eq_none]
  intro i hi
  obtain ⟨j, hj, rfl⟩ := List.mem_map.1 hi
  rw [hb j (List.mem_range.1 hj)]; simp
section
variable {b : Bk} {gd g first n x : Nat} {T : List (Nat × Obj)} {w0 w : World} {es : List Ent}
set_option maxRecDepth 100000 in
set_option maxHeartbeats 16000000 in
theorem look_free (h : OwnX b gd g T w0 w) (hT : (x, tabO g first n) ∈ T) (hTa : Ta b first n es) (hf : first ≤ 2000) (hn : n ≤ 2000) (h1 : 1 ≤ n) (a : Nat) (ha : a ≤ 100000)  :
    Calls Tryz.prog 77 #[.pointer (some ⟨x, 0, none⟩), .int .i64 a, .func (.func 80) #[] #[]] w (LookP (lookL (fitO) es n a) w) := by
  obtain ⟨_, _, c2⟩ := (h.tab hT).cells
  have Hen := Lib.hid (fun (wr : World) (hb : Below w.heap.size w wr) (i : Nat) (hi : i < n) => (h.below hb).pentry hT hTa hf hn hi)
  have Hok := Lib.hid (fun (i : Nat) (hi : i < n) => hTa.eok hi)
  have Htb := Lib.hid (fun (wr : World) (hb : Below w.heap.size w wr) => ((h.below hb).tab hT).cells)
  have Hcl := Lib.hid (fun (e : Ent) (he : EntOk e) (W : World) (hW : Below w.heap.size w W) => (show Calls Tryz.prog 80 #[entV e ] W (RetP (.bool (fitO e)) W) from free1_any e he W))
  obtain ⟨G, hG⟩ : ∃ G, lookL (fitO) es n a = G := ⟨_, rfl⟩
  obtain ⟨f, hfe⟩ : ∃ f : Ent → Bool, (fun e => fitO e) = f := ⟨_, rfl⟩
  have hf2 : ∀ e, fitO e = f e := fun e => by rw [← hfe]
  have hG2 : lookL f es n a = G := by rw [← hG, ← hfe]
  rw [hG]
  have HG := Lib.hid hG2
  have n0 : (0 : Int) ≤ (n : Int) := by omega
  obtain ⟨zn, Hzn⟩ : ∃ zn : Array Value, Hid (zn = (entC noE).toArray) := ⟨_, rfl⟩
  have hal : ∀ w : World, (Instr.alloc 73 true (.tuple #[])).run Tryz.prog w = .ok (.pointer (some ⟨w.heap.size, 0, none⟩)) (w.alloc (.cells zn 73)) := by rw [Hzn.out]; exact allocEnt
  have Hf2 := Lib.hid hf2
  clear h hTa hG hfe hG2 hf2
  go_enter Tryz.func77, Tryz.ntmps77
  go_wp2
  clear c2
  go_loopg [20] n (fun m v wr => ∃ k : Nat, m = n - k ∧ k ≤ n ∧ v = .int .i64 k ∧ (∀ j, j < k → f (es.getD ((a + j) % n) noE) = false) ∧ Below w.heap.size w wr)
  case atStart => exact ⟨0, rfl, by omega, rfl, fun j hj => by omega, Below.refl _ _⟩
  case round =>
    obtain ⟨k, rfl, hk, rfl, hbf, hb⟩ := hrel
    by_cases hlt : k < n
    · have hlt' : (k : Int) < (n : Int) := by omega
      obtain ⟨_, _, c2⟩ := Htb.out wr hb
      obtain ⟨s, hs⟩ : ∃ s, a + k = s := ⟨_, rfl⟩
      obtain ⟨i, hi⟩ : ∃ i, s % n = i := ⟨_, rfl⟩
      have hin : i < n := by rw [← hi]; exact Nat.mod_lt _ (by omega)
      have w1 : IntKind.i64.wrap ((a : Int) + (k : Int)) = (s : Int) := by rw [IntWalk.i64_in _ (by omega)]; omega
      have w2 : ((s : Int)).tmod (n : Int) = (i : Int) := by rw [Int.tmod_eq_emod_of_nonneg (by omega), ← hi, Int.natCast_emod]
      have hn0 : ¬ ((n : Int) = 0) := by omega
      have hs16 : s ≤ 200000 := by omega
      have hi16 : i ≤ 2000 := by omega
      have wi : IntKind.i64.wrap (i : Int) = (i : Int) := IntWalk.i64_in _ (by omega)
      have Hen2 := Lib.hid (Hen.out wr hb i hin)
      have hok := Hok.out i hin
      obtain ⟨e, he⟩ : ∃ e, es.getD i noE = e := ⟨_, rfl⟩
      rw [he] at Hen2 hok
      have hfe : f (es.getD ((a + k) % n) noE) = f e := by rw [hs, hi, he]
      have HaK := Lib.hid (show (a + k) % n = i by rw [hs, hi])
      obtain ⟨ev, Hev⟩ : ∃ ev : List Value, Hid (ev = entC e) := ⟨_, rfl⟩
      have hV : entV e = .agg ev.toArray := by rw [Hev.out]; rfl
      rw [hV] at Hen2
      have hel : ev.length = 34 := by rw [Hev.out]; exact entC_len hok.dg
      have hei : Hid ((Tryz.prog.info? 73).map (·.size) = some ev.toArray.size) := by rw [List.size_toArray, hel]; exact infoEnt
      have hez : Hid (zn.size = ev.toArray.size) := by
        have e : ev.toArray.size = 34 := by rw [List.size_toArray, hel]
        rw [e, Hzn.out]; exact (rfl : (entC noE).toArray.size = 34)
      have he1 : Hid (ev.toArray.all (·.oneCell') = true) := by rw [Hev.out]; exact all_oneCell_toArray (entC_one e)
      have Hfe := Lib.hid hfe; have Hbf := Lib.hid hbf; have Hb := Lib.hid hb
      clear hs hi he hfe hbf hb hel
      go_wp2_with (first
        | (go_at_call 104; refine Hen2.out.mono ?_))
      rintro e5 w5 ⟨rfl, hb5⟩
      have hb6 : Below w5.heap.size w5 (w5.alloc (.cells ev.toArray 73)) := (Below.refl _ _).alloc (Nat.le_refl _) _
      have hx6 : (w5.alloc (.cells ev.toArray 73)).heap[w5.heap.size]? = some (.cells ev.toArray 73 (0, 0)) := heap_alloc_new w5 _
      have hbw6 := (Hb.out.trans (hb5.mono Hb.out.size)).trans (hb6.mono (by have := Hb.out.size; have := hb5.size; omega))
      have hcl := Hcl.out e hok _ hbw6
      rw [hV, Hf2.out] at hcl
      have Hcl2 := Lib.hid hcl; have Hbw6 := Lib.hid hbw6
      obtain ⟨F, hF⟩ : ∃ F, f e = F := ⟨_, rfl⟩
      rw [hF] at Hcl2
      have hfe := Hfe.out
      rw [hF] at hfe
      have Hfe2 := Lib.hid hfe
      clear hb5 hb6 hbw6 hcl hV hok c2 Hen2 Hfe hfe hF
      cases F with
      | true =>
        go_wp2_with (first
          | (refine wpList_alloc_arr rfl 73 rfl _ hal ?_)
          | (refine wpList_store_new rfl 73 _ _ rfl w5.heap.size rfl ev.toArray rfl rfl 73 _ hei.out hez.out he1.out ?_)
          | (refine wpList_load_row rfl 73 _ rfl w5.heap.size rfl 73 ev.toArray (0, 0) _ hx6 Tryz.underlying73 rfl hei.out ?_)
          | (go_at_call 80; refine Hcl2.out.mono ?_))
        rintro e7 w7 ⟨rfl, hb7⟩
        have hG3 : G = some i := by rw [← HG.out, look_found hlt Hfe2.out Hbf.out, HaK.out]
        subst hG3
        have Hfin := Lib.hid (show LookP (some i) w (.returned (.tuple #[.int .i64 (i : Nat), .bool true, .nilIface])) w7 from ⟨rfl, Hbw6.out.trans (hb7.mono Hbw6.out.size)⟩)
        clear hb7 Hcl2 hx6
        go_wp2
        first | exact Hfin.out | (go_ret; exact Hfin.out) | refine bodyPost_ret (v := .tuple #[.int .i64 (i : Nat), .bool true, .nilIface]) (by simp [results, Tryz.results77, go_sem]) rfl Hfin.out
      | false =>
        go_wp2_with (first
          | (refine wpList_alloc_arr rfl 73 rfl _ hal ?_)
          | (refine wpList_store_new rfl 73 _ _ rfl w5.heap.size rfl ev.toArray rfl rfl 73 _ hei.out hez.out he1.out ?_)
          | (refine wpList_load_row rfl 73 _ rfl w5.heap.size rfl 73 ev.toArray (0, 0) _ hx6 Tryz.underlying73 rfl hei.out ?_)
          | (go_at_call 80; refine Hcl2.out.mono ?_))
        rintro e7 w7 ⟨rfl, hb7⟩
        have Hb7 := Lib.hid (Hbw6.out.trans (hb7.mono Hbw6.out.size))
        have Hbf7 := Lib.hid (fun j (hj : j < k + 1) => (show f (es.getD ((a + j) % n) noE) = false by
          by_cases ej : j = k
          · subst ej; exact Hfe2.out
          · exact Hbf.out j (by omega)))
        clear hb7 Hcl2 hx6
        go_wp2
        go_roundg (n - (k + 1))
        case measure => omega
        case rel => exact ⟨k + 1, rfl, by omega, by go_num, Hbf7.out, Hb7.out⟩
    · obtain rfl : k = n := by omega
      have hlt' : ¬ ((k : Int) < (k : Int)) := by omega
      have hG3 : G = none := by rw [← HG.out, look_none hbf]
      subst hG3
      have Hfin := Lib.hid (show LookP none w (.returned (.tuple #[.int .i64 0, .bool false, .nilIface])) wr from ⟨rfl, hb⟩)
      clear hb hbf
      go_wp2
      first | exact Hfin.out | (go_ret; exact Hfin.out) | refine bodyPost_ret (v := .tuple #[.int .i64 0, .bool false, .nilIface]) (by simp [results, Tryz.results77, go_sem]) rfl Hfin.out
set_option maxRecDepth 100000 in
set_option maxHeartbeats 16000000 in
theorem look_slot (h : OwnX b gd g T w0 w) (hT : (x, tabO g first n) ∈ T) (hTa : Ta b first n es) (hf : first ≤ 2000) (hn : n ≤ 2000) (h1 : 1 ≤ n) (a : Nat) (ha : a ≤ 100000) (c : Nat) (sl : Int) (hc : w.cell? ⟨c, 0, none⟩ = some (.int .i64 sl)) (hcl : c < w.heap.size) :
    Calls Tryz.prog 77 #[.pointer (some ⟨x, 0, none⟩), .int .i64 a, .func (.func 81) #[] #[.pointer (some ⟨c, 0, none⟩)]] w (LookP (lookL (fitS sl) es n a) w) := by
  obtain ⟨_, _, c2⟩ := (h.tab hT).cells
  have Hen := Lib.hid (fun (wr : World) (hb : Below w.heap.size w wr) (i : Nat) (hi : i < n) => (h.below hb).pentry hT hTa hf hn hi)
  have Hok := Lib.hid (fun (i : Nat) (hi : i < n) => hTa.eok hi)
  have Htb := Lib.hid (fun (wr : World) (hb : Below w.heap.size w wr) => ((h.below hb).tab hT).cells)
  have Hcl := Lib.hid (fun (e : Ent) (he : EntOk e) (W : World) (hW : Below w.heap.size w W) => (show Calls Tryz.prog 81 #[entV e , .pointer (some ⟨c, 0, none⟩)] W (RetP (.bool ((fitS sl) e)) W) from slot1_any e he c sl W ((hW.cell (p := ⟨c, 0, none⟩) hcl).trans hc) (Nat.lt_of_lt_of_le hcl hW.size)))
  obtain ⟨G, hG⟩ : ∃ G, lookL (fitS sl) es n a = G := ⟨_, rfl⟩
  obtain ⟨f, hfe⟩ : ∃ f : Ent → Bool, (fun e => (fitS sl) e) = f := ⟨_, rfl⟩
  have hf2 : ∀ e, (fitS sl) e = f e := fun e => by rw [← hfe]
  have hG2 : lookL f es n a = G := by rw [← hG, ← hfe]
  rw [hG]
  have HG := Lib.hid hG2
  have n0 : (0 : Int) ≤ (n : Int) := by omega
  obtain ⟨zn, Hzn⟩ : ∃ zn : Array Value, Hid (zn = (entC noE).toArray) := ⟨_, rfl⟩
  have hal : ∀ w : World, (Instr.alloc 73 true (.tuple #[])).run Tryz.prog w = .ok (.pointer (some ⟨w.heap.size, 0, none⟩)) (w.alloc (.cells zn 73)) := by rw [Hzn.out]; exact allocEnt
  have Hf2 := Lib.hid hf2
  clear h hTa hG hfe hG2 hf2
  go_enter Tryz.func77, Tryz.ntmps77
  go_wp2
  clear c2
  go_loopg [20] n (fun m v wr => ∃ k : Nat, m = n - k ∧ k ≤ n ∧ v = .int .i64 k ∧ (∀ j, j < k → f (es.getD ((a + j) % n) noE) = false) ∧ Below w.heap.size w wr)
  case atStart => exact ⟨0, rfl, by omega, rfl, fun j hj => by omega, Below.refl _ _⟩
  case round =>
    obtain ⟨k, rfl, hk, rfl, hbf, hb⟩ := hrel
    by_cases hlt : k < n
    · have hlt' : (k : Int) < (n : Int) := by omega
      obtain ⟨_, _, c2⟩ := Htb.out wr hb
      obtain ⟨s, hs⟩ : ∃ s, a + k = s := ⟨_, rfl⟩
      obtain ⟨i, hi⟩ : ∃ i, s % n = i := ⟨_, rfl⟩
      have hin : i < n := by rw [← hi]; exact Nat.mod_lt _ (by omega)
      have w1 : IntKind.i64.wrap ((a : Int) + (k : Int)) = (s : Int) := by rw [IntWalk.i64_in _ (by omega)]; omega
      have w2 : ((s : Int)).tmod (n : Int) = (i : Int) := by rw [Int.tmod_eq_emod_of_nonneg (by omega), ← hi, Int.natCast_emod]
      have hn0 : ¬ ((n : Int) = 0) := by omega
      have hs16 : s ≤ 200000 := by omega
      have hi16 : i ≤ 2000 := by omega
      have wi : IntKind.i64.wrap (i : Int) = (i : Int) := IntWalk.i64_in _ (by omega)
      have Hen2 := Lib.hid (Hen.out wr hb i hin)
      have hok := Hok.out i hin
      obtain ⟨e, he⟩ : ∃ e, es.getD i noE = e := ⟨_, rfl⟩
      rw [he] at Hen2 hok
      have hfe : f (es.getD ((a + k) % n) noE) = f e := by rw [hs, hi, he]
      have HaK := Lib.hid (show (a + k) % n = i by rw [hs, hi])
      obtain ⟨ev, Hev⟩ : ∃ ev : List Value, Hid (ev = entC e) := ⟨_, rfl⟩
      have hV : entV e = .agg ev.toArray := by rw [Hev.out]; rfl
      rw [hV] at Hen2
      have hel : ev.length = 34 := by rw [Hev.out]; exact entC_len hok.dg
      have hei : Hid ((Tryz.prog.info? 73).map (·.size) = some ev.toArray.size) := by rw [List.size_toArray, hel]; exact infoEnt
      have hez : Hid (zn.size = ev.toArray.size) := by
        have e : ev.toArray.size = 34 := by rw [List.size_toArray, hel]
        rw [e, Hzn.out]; exact (rfl : (entC noE).toArray.size = 34)
      have he1 : Hid (ev.toArray.all (·.oneCell') = true) := by rw [Hev.out]; exact all_oneCell_toArray (entC_one e)
      have Hfe := Lib.hid hfe; have Hbf := Lib.hid hbf; have Hb := Lib.hid hb
      clear hs hi he hfe hbf hb hel
      go_wp2_with (first
        | (go_at_call 104; refine Hen2.out.mono ?_))
      rintro e5 w5 ⟨rfl, hb5⟩
      have hb6 : Below w5.heap.size w5 (w5.alloc (.cells ev.toArray 73)) := (Below.refl _ _).alloc (Nat.le_refl _) _
      have hx6 : (w5.alloc (.cells ev.toArray 73)).heap[w5.heap.size]? = some (.cells ev.toArray 73 (0, 0)) := heap_alloc_new w5 _
      have hbw6 := (Hb.out.trans (hb5.mono Hb.out.size)).trans (hb6.mono (by have := Hb.out.size; have := hb5.size; omega))
      have hcl := Hcl.out e hok _ hbw6
      rw [hV, Hf2.out] at hcl
      have Hcl2 := Lib.hid hcl; have Hbw6 := Lib.hid hbw6
      obtain ⟨F, hF⟩ : ∃ F, f e = F := ⟨_, rfl⟩
      rw [hF] at Hcl2
      have hfe := Hfe.out
      rw [hF] at hfe
      have Hfe2 := Lib.hid hfe
      clear hb5 hb6 hbw6 hcl hV hok c2 Hen2 Hfe hfe hF
      cases F with
      | true =>
        go_wp2_with (first
          | (refine wpList_alloc_arr rfl 73 rfl _ hal ?_)
          | (refine wpList_store_new rfl 73 _ _ rfl w5.heap.size rfl ev.toArray rfl rfl 73 _ hei.out hez.out he1.out ?_)
          | (refine wpList_load_row rfl 73 _ rfl w5.heap.size rfl 73 ev.toArray (0, 0) _ hx6 Tryz.underlying73 rfl hei.out ?_)
          | (go_at_call 81; refine Hcl2.out.mono ?_))
        rintro e7 w7 ⟨rfl, hb7⟩
        have hG3 : G = some i := by rw [← HG.out, look_found hlt Hfe2.out Hbf.out, HaK.out]
        subst hG3
        have Hfin := Lib.hid (show LookP (some i) w (.returned (.tuple #[.int .i64 (i : Nat), .bool true, .nilIface])) w7 from ⟨rfl, Hbw6.out.trans (hb7.mono Hbw6.out.size)⟩)
        clear hb7 Hcl2 hx6
        go_wp2
        first | exact Hfin.out | (go_ret; exact Hfin.out) | refine bodyPost_ret (v := .tuple #[.int .i64 (i : Nat), .bool true, .nilIface]) (by simp [results, Tryz.results77, go_sem]) rfl Hfin.out
      | false =>
        go_wp2_with (first
          | (refine wpList_alloc_arr rfl 73 rfl _ hal ?_)
          | (refine wpList_store_new rfl 73 _ _ rfl w5.heap.size rfl ev.toArray rfl rfl 73 _ hei.out hez.out he1.out ?_)
          | (refine wpList_load_row rfl 73 _ rfl w5.heap.size rfl 73 ev.toArray (0, 0) _ hx6 Tryz.underlying73 rfl hei.out ?_)
          | (go_at_call 81; refine Hcl2.out.mono ?_))
        rintro e7 w7 ⟨rfl, hb7⟩
        have Hb7 := Lib.hid (Hbw6.out.trans (hb7.mono Hbw6.out.size))
        have Hbf7 := Lib.hid (fun j (hj : j < k + 1) => (show f (es.getD ((a + j) % n) noE) = false by
          by_cases ej : j = k
          · subst ej; exact Hfe2.out
          · exact Hbf.out j (by omega)))
        clear hb7 Hcl2 hx6
        go_wp2
        go_roundg (n - (k + 1))
        case measure => omega
        case rel => exact ⟨k + 1, rfl, by omega, by go_num, Hbf7.out, Hb7.out⟩
    · obtain rfl : k = n := by omega
      have hlt' : ¬ ((k : Int) < (k : Int)) := by omega
      have hG3 : G = none := by rw [← HG.out, look_none hbf]
      subst hG3
      have Hfin := Lib.hid (show LookP none w (.returned (.tuple #[.int .i64 0, .bool false, .nilIface])) wr from ⟨rfl, hb⟩)
      clear hb hbf
      go_wp2
      first | exact Hfin.out | (go_ret; exact Hfin.out) | refine bodyPost_ret (v := .tuple #[.int .i64 0, .bool false, .nilIface]) (by simp [results, Tryz.results77, go_sem]) rfl Hfin.out
set_option maxRecDepth 100000 in
set_option maxHeartbeats 16000000 in
theorem look_find (h : OwnX b gd g T w0 w) (hT : (x, tabO g first n) ∈ T) (hTa : Ta b first n es) (hf : first ≤ 2000) (hn : n ≤ 2000) (h1 : 1 ≤ n) (a : Nat) (ha : a ≤ 100000) (c : Nat) (d : List UInt8) (hdl : d.length = 32) (hc : w.heap[c]? = some (.cells (d.map cu8).toArray 71 (0, 0))) :
    Calls Tryz.prog 77 #[.pointer (some ⟨x, 0, none⟩), .int .i64 a, .func (.func 79) #[] #[.pointer (some ⟨c, 0, none⟩)]] w (LookP (lookL (fitF d) es n a) w) := by
  obtain ⟨_, _, c2⟩ := (h.tab hT).cells
  have Hen := Lib.hid (fun (wr : World) (hb : Below w.heap.size w wr) (i : Nat) (hi : i < n) => (h.below hb).pentry hT hTa hf hn hi)
  have Hok := Lib.hid (fun (i : Nat) (hi : i < n) => hTa.eok hi)
  have Htb := Lib.hid (fun (wr : World) (hb : Below w.heap.size w wr) => ((h.below hb).tab hT).cells)
  have Hcl := Lib.hid (fun (e : Ent) (he : EntOk e) (W : World) (hW : Below w.heap.size w W) => (show Calls Tryz.prog 79 #[entV e , .pointer (some ⟨c, 0, none⟩)] W (RetP (.bool ((fitF d) e)) W) from find1_any e he c d hdl W ((hW.block c (Array.getElem?_eq_some_iff.1 hc).1).trans hc)))
  obtain ⟨G, hG⟩ : ∃ G, lookL (fitF d) es n a = G := ⟨_, rfl⟩
  obtain ⟨f, hfe⟩ : ∃ f : Ent → Bool, (fun e => (fitF d) e) = f := ⟨_, rfl⟩
  have hf2 : ∀ e, (fitF d) e = f e := fun e => by rw [← hfe]
  have hG2 : lookL f es n a = G := by rw [← hG, ← hfe]
  rw [hG]
  have HG := Lib.hid hG2
  have n0 : (0 : Int) ≤ (n : Int) := by omega
  obtain ⟨zn, Hzn⟩ : ∃ zn : Array Value, Hid (zn = (entC noE).toArray) := ⟨_, rfl⟩
  have hal : ∀ w : World, (Instr.alloc 73 true (.tuple #[])).run Tryz.prog w = .ok (.pointer (some ⟨w.heap.size, 0, none⟩)) (w.alloc (.cells zn 73)) := by rw [Hzn.out]; exact allocEnt
  have Hf2 := Lib.hid hf2
  clear h hTa hG hfe hG2 hf2
  go_enter Tryz.func77, Tryz.ntmps77
  go_wp2
  clear c2
  go_loopg [20] n (fun m v wr => ∃ k : Nat, m = n - k ∧ k ≤ n ∧ v = .int .i64 k ∧ (∀ j, j < k → f (es.getD ((a + j) % n) noE) = false) ∧ Below w.heap.size w wr)
  case atStart => exact ⟨0, rfl, by omega, rfl, fun j hj => by omega, Below.refl _ _⟩
  case round =>
    obtain ⟨k, rfl, hk, rfl, hbf, hb⟩ := hrel
    by_cases hlt : k < n
    · have hlt' : (k : Int) < (n : Int) := by omega
      obtain ⟨_, _, c2⟩ := Htb.out wr hb
      obtain ⟨s, hs⟩ : ∃ s, a + k = s := ⟨_, rfl⟩
      obtain ⟨i, hi⟩ : ∃ i, s % n = i := ⟨_, rfl⟩
      have hin : i < n := by rw [← hi]; exact Nat.mod_lt _ (by omega)
      have w1 : IntKind.i64.wrap ((a : Int) + (k : Int)) = (s : Int) := by rw [IntWalk.i64_in _ (by omega)]; omega
      have w2 : ((s : Int)).tmod (n : Int) = (i : Int) := by rw [Int.tmod_eq_emod_of_nonneg (by omega), ← hi, Int.natCast_emod]
      have hn0 : ¬ ((n : Int) = 0) := by omega
      have hs16 : s ≤ 200000 := by omega
      have hi16 : i ≤ 2000 := by omega
      have wi : IntKind.i64.wrap (i : Int) = (i : Int) := IntWalk.i64_in _ (by omega)
      have Hen2 := Lib.hid (Hen.out wr hb i hin)
      have hok := Hok.out i hin
      obtain ⟨e, he⟩ : ∃ e, es.getD i noE = e := ⟨_, rfl⟩
      rw [he] at Hen2 hok
      have hfe : f (es.getD ((a + k) % n) noE) = f e := by rw [hs, hi, he]
      have HaK := Lib.hid (show (a + k) % n = i by rw [hs, hi])
      obtain ⟨ev, Hev⟩ : ∃ ev : List Value, Hid (ev = entC e) := ⟨_, rfl⟩
      have hV : entV e = .agg ev.toArray := by rw [Hev.out]; rfl
      rw [hV] at Hen2
      have hel : ev.length = 34 := by rw [Hev.out]; exact entC_len hok.dg
      have hei : Hid ((Tryz.prog.info? 73).map (·.size) = some ev.toArray.size) := by rw [List.size_toArray, hel]; exact infoEnt
      have hez : Hid (zn.size = ev.toArray.size) := by
        have e : ev.toArray.size = 34 := by rw [List.size_toArray, hel]
        rw [e, Hzn.out]; exact (rfl : (entC noE).toArray.size = 34)
      have he1 : Hid (ev.toArray.all (·.oneCell') = true) := by rw [Hev.out]; exact all_oneCell_toArray (entC_one e)
      have Hfe := Lib.hid hfe; have Hbf := Lib.hid hbf; have Hb := Lib.hid hb
      clear hs hi he hfe hbf hb hel
      go_wp2_with (first
        | (go_at_call 104; refine Hen2.out.mono ?_))
      rintro e5 w5 ⟨rfl, hb5⟩
      have hb6 : Below w5.heap.size w5 (w5.alloc (.cells ev.toArray 73)) := (Below.refl _ _).alloc (Nat.le_refl _) _
      have hx6 : (w5.alloc (.cells ev.toArray 73)).heap[w5.heap.size]? = some (.cells ev.toArray 73 (0, 0)) := heap_alloc_new w5 _
      have hbw6 := (Hb.out.trans (hb5.mono Hb.out.size)).trans (hb6.mono (by have := Hb.out.size; have := hb5.size; omega))
      have hcl := Hcl.out e hok _ hbw6
      rw [hV, Hf2.out] at hcl
      have Hcl2 := Lib.hid hcl; have Hbw6 := Lib.hid hbw6
      obtain ⟨F, hF⟩ : ∃ F, f e = F := ⟨_, rfl⟩
      rw [hF] at Hcl2
      have hfe := Hfe.out
      rw [hF] at hfe
      have Hfe2 := Lib.hid hfe
      clear hb5 hb6 hbw6 hcl hV hok c2 Hen2 Hfe hfe hF
      cases F with
      | true =>
        go_wp2_with (first
          | (refine wpList_alloc_arr rfl 73 rfl _ hal ?_)
          | (refine wpList_store_new rfl 73 _ _ rfl w5.heap.size rfl ev.toArray rfl rfl 73 _ hei.out hez.out he1.out ?_)
          | (refine wpList_load_row rfl 73 _ rfl w5.heap.size rfl 73 ev.toArray (0, 0) _ hx6 Tryz.underlying73 rfl hei.out ?_)
          | (go_at_call 79; refine Hcl2.out.mono ?_))
        rintro e7 w7 ⟨rfl, hb7⟩
        have hG3 : G = some i := by rw [← HG.out, look_found hlt Hfe2.out Hbf.out, HaK.out]
        subst hG3
        have Hfin := Lib.hid (show LookP (some i) w (.returned (.tuple #[.int .i64 (i : Nat), .bool true, .nilIface])) w7 from ⟨rfl, Hbw6.out.trans (hb7.mono Hbw6.out.size)⟩)
        clear hb7 Hcl2 hx6
        go_wp2
        first | exact Hfin.out | (go_ret; exact Hfin.out) | refine bodyPost_ret (v := .tuple #[.int .i64 (i : Nat), .bool true, .nilIface]) (by simp [results, Tryz.results77, go_sem]) rfl Hfin.out
      | false =>
        go_wp2_with (first
          | (refine wpList_alloc_arr rfl 73 rfl _ hal ?_)
          | (refine wpList_store_new rfl 73 _ _ rfl w5.heap.size rfl ev.toArray rfl rfl 73 _ hei.out hez.out he1.out ?_)
          | (refine wpList_load_row rfl 73 _ rfl w5.heap.size rfl 73 ev.toArray (0, 0) _ hx6 Tryz.underlying73 rfl hei.out ?_)
          | (go_at_call 79; refine Hcl2.out.mono ?_))
        rintro e7 w7 ⟨rfl, hb7⟩
        have Hb7 := Lib.hid (Hbw6.out.trans (hb7.mono Hbw6.out.size))
        have Hbf7 := Lib.hid (fun j (hj : j < k + 1) => (show f (es.getD ((a + j) % n) noE) = false by
          by_cases ej : j = k
          · subst ej; exact Hfe2.out
          · exact Hbf.out j (by omega)))
        clear hb7 Hcl2 hx6
        go_wp2
        go_roundg (n - (k + 1))
        case measure => omega
        case rel => exact ⟨k + 1, rfl, by omega, by go_num, Hbf7.out, Hb7.out⟩
    · obtain rfl : k = n := by omega
      have hlt' : ¬ ((k : Int) < (k : Int)) := by omega
      have hG3 : G = none := by rw [← HG.out, look_none hbf]
      subst hG3
      have Hfin := Lib.hid (show LookP none w (.returned (.tuple #[.int .i64 0, .bool false, .nilIface])) wr from ⟨rfl, hb⟩)
      clear hb hbf
      go_wp2
      first | exact Hfin.out | (go_ret; exact Hfin.out) | refine bodyPost_ret (v := .tuple #[.int .i64 0, .bool false, .nilIface]) (by simp [results, Tryz.results77, go_sem]) rfl Hfin.out
end
end Go.Proofs.YtopjhgpgompenaaGreatDoor
