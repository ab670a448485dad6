import Derived.Test.YtjkkbceddbkejaaGreatDoorBkNil
import Derived.Test.YtjkkbceddbkejaaGreatDoorBkOwn
set_option linter.unusedSimpArgs false
set_option linter.unusedVariables false
/-
  Package depot: a container's head.
-/
namespace Go.Proofs.YtjkkbceddbkejaaGreatDoor
open Go.RowKit Sh Go.Maps Go.Extern.Stop Go.Stop Go.Extern

def headV (h : List UInt8) : Value := .agg (h.map cu8).toArray
def cutH (b : UInt8) : UInt8 := if b.toNat ≤ 2 then b else 2
def rawH (p : List UInt8) : List UInt8 := (p.take 4).map cutH
def toldH (p : List UInt8) : List UInt8 := if (rawH p).count 1 = 0 then List.replicate 4 0 else rawH p
def pageH (h : List UInt8) : List UInt8 := h ++ List.replicate 60 0
theorem rawH_len {p : List UInt8} (h : p.length = 64) : (rawH p).length = 4 := by simp [rawH, h]
theorem toldH_len {p : List UInt8} (h : p.length = 64) : (toldH p).length = 4 := by unfold toldH; split <;> simp [rawH_len h]
theorem pageH_len {h : List UInt8} (hl : h.length = 4) : (pageH h).length = 64 := by simp [pageH, hl]
theorem cu8_nat (c : UInt8) : cu8 c = .int .u8 (c.toNat : Int) := by rw [cu8, bz_eq]
theorem infoHead : (Tryz.prog.info? 91).map (·.size) = some 4 := by kernel_rfl
theorem count_take {h : List UInt8} {s c : UInt8} {k : Nat} (hc : h[k]? = some c) : (h.take (k + 1)).count s = (h.take k).count s + if c = s then 1 else 0 := by
  rw [List.take_add_one, hc, List.count_append]
  by_cases e : c = s
  · subst e; simp
  · simp [e]
section
variable {w : World}
set_option maxRecDepth 100000 in
set_option maxHeartbeats 4000000 in
theorem hcount_any (h : List UInt8) (hl : h.length = 4) (s : UInt8) : Calls Tryz.prog 40 #[headV h, cu8 s] w (RetP (.int .i64 (h.count s : Nat)) w) := by
  obtain ⟨hv, Hhv⟩ : ∃ hv : List Value, Hid (hv = h.map cu8) := ⟨_, rfl⟩
  have hV : headV h = .agg hv.toArray := by rw [Hhv.out]; rfl
  have hvl : hv.length = 4 := by rw [Hhv.out]; simp [hl]
  have hi : Hid ((Tryz.prog.info? 91).map (·.size) = some hv.toArray.size) := by rw [List.size_toArray, hvl]; exact infoHead
  have hb1 : Below w.heap.size w (w.alloc (.cells hv.toArray 91)) := (Below.refl _ _).alloc (Nat.le_refl _) _
  have hx1 : (w.alloc (.cells hv.toArray 91)).heap[w.heap.size]? = some (.cells hv.toArray 91 (0, 0)) := heap_alloc_new w _
  have hix : ∀ (k : Nat) (c : UInt8), h[k]? = some c → k < 4 → ∀ W : World, (Instr.index 91 (.agg hv.toArray) (.int .i64 (k : Int))).run Tryz.prog W = .ok (.int .u8 (c.toNat : Int)) W := fun k c hc hk W =>
    run_index_row _ _ 4 Tryz.underlying91 Tryz.underlying5 (by kernel_rfl) hv.toArray k hk _ (by rw [List.getElem?_toArray, Hhv.out, List.getElem?_map, hc, ← cu8_nat]; rfl) W
  have Hix := Lib.hid hix
  rw [hV, cu8_nat]
  obtain ⟨S, hS⟩ : ∃ S : Nat, s.toNat = S := ⟨_, rfl⟩
  have HS := Lib.hid hS
  rw [hS]
  clear hix hV hS
  go_enter Tryz.func40, Tryz.ntmps40
  go_wp2_with (first
    | (refine wpList_load_row rfl 91 _ rfl w.heap.size rfl 91 hv.toArray (0, 0) _ hx1 Tryz.underlying91 rfl hi.out ?_))
  clear hx1
  go_loopg [5, 9] 4 (fun m n v wr => ∃ k : Nat, m = 4 - k ∧ k ≤ 4 ∧ v = .int .i64 k ∧ n = .int .i64 ((h.take k).count s : Nat) ∧ Below w.heap.size w wr)
  case atStart => exact ⟨0, rfl, by omega, rfl, rfl, hb1⟩
  case round =>
    clear hb1
    obtain ⟨k, rfl, hk, rfl, rfl, hb⟩ := hrel
    by_cases hlt : k < 4
    · have hlt' : (k : Int) < 4 := by omega
      obtain ⟨c, hc⟩ : ∃ c, h[k]? = some c := ⟨_, List.getElem?_eq_getElem (by omega)⟩
      have hix := Hix.out k c hc hlt
      have Hct := Lib.hid (count_take (s := s) hc)
      obtain ⟨N, hN⟩ : ∃ N, (h.take k).count s = N := ⟨_, rfl⟩
      have hN4 : N ≤ 4 := by rw [← hN]; exact Nat.le_trans List.count_le_length (by rw [List.length_take]; omega)
      rw [hN] at Hct ⊢
      obtain ⟨C, hC⟩ : ∃ C : Nat, c.toNat = C := ⟨_, rfl⟩
      rw [hC] at hix
      clear hN hc
      by_cases e : C = S
      · have ecs : c = s := UInt8.toNat_inj.1 (by rw [hC, HS.out, e])
        have Hct2 := Lib.hid (show (h.take (k + 1)).count s = N + 1 by rw [Hct.out, if_pos ecs])
        subst e
        clear Hct hC ecs
        go_wp2
        go_roundg (4 - (k + 1))
        case measure => omega
        case rel => exact ⟨k + 1, rfl, by omega, by go_num, by rw [Hct2.out]; go_num, hb⟩
      · have ecs : ¬ c = s := fun h2 => e (by rw [← hC, ← HS.out, h2])
        have Hct2 := Lib.hid (show (h.take (k + 1)).count s = N by rw [Hct.out, if_neg ecs, Nat.add_zero])
        have e2 : ¬ ((C : Int) = (S : Int)) := by omega
        clear Hct hC ecs e
        go_wp2
        go_roundg (4 - (k + 1))
        case measure => omega
        case rel => exact ⟨k + 1, rfl, by omega, by go_num, by rw [Hct2.out], hb⟩
    · obtain rfl : k = 4 := by omega
      clear hlt
      rw [List.take_of_length_le (by omega)]
      go_wp2
      go_ret
      exact ⟨rfl, hb⟩
end
end Go.Proofs.YtjkkbceddbkejaaGreatDoor

/-
  Package depot: begun, told, page; a depot in memory.
-/
namespace Go.Proofs.YtjkkbceddbkejaaGreatDoor
open Go.RowKit Sh Go.Maps Go.Extern.Stop Go.Stop Go.Extern

def z4 : List UInt8 := List.replicate 4 0
theorem built_head : Tryz.prog.built 91 [] = some (z4.map cu8).toArray := by kernel_rfl
def zeroHead : Array Value := (z4.map cu8).toArray
theorem allocHead (w : World) : (Instr.alloc 91 true (.tuple #[])).run Tryz.prog w = .ok (.pointer (some ⟨w.heap.size, 0, none⟩)) (w.alloc (.cells zeroHead 91)) := by kernel_rfl
theorem eqHead (l1 l2 : List UInt8) (h1 : l1.length = 4) (h2 : l2.length = 4) (W : World) : (Op.equalIn 10000 91 (.agg (l1.map cu8).toArray) (.agg (l2.map cu8).toArray)).run Tryz.prog W = .ok (decide (l1 = l2)) W :=
  run_items (P := Tryz.prog) 91 5 4 Tryz.underlying91 Tryz.underlying5 (by kernel_rfl) l1 l2 h1 h2 W
section
variable {w : World}
set_option maxRecDepth 100000 in
theorem begun_any (h : List UInt8) (hl : h.length = 4) : Calls Tryz.prog 101 #[headV h] w (RetP (.bool (!decide (h = z4))) w) := by
  obtain ⟨hv, Hhv⟩ : ∃ hv : List Value, Hid (hv = h.map cu8) := ⟨_, rfl⟩
  obtain ⟨zv, Hzv⟩ : ∃ zv : List Value, Hid (zv = z4.map cu8) := ⟨_, rfl⟩
  have hV : headV h = .agg hv.toArray := by rw [Hhv.out]; rfl
  have hvl : hv.length = 4 := by rw [Hhv.out]; simp [hl]
  have hi : Hid ((Tryz.prog.info? 91).map (·.size) = some hv.toArray.size) := by rw [List.size_toArray, hvl]; exact infoHead
  have hbz : Hid (Tryz.prog.built 91 [] = some zv.toArray) := by rw [Hzv.out]; exact built_head
  have hb1 : Below w.heap.size w (w.alloc (.cells hv.toArray 91)) := (Below.refl _ _).alloc (Nat.le_refl _) _
  have hx1 : (w.alloc (.cells hv.toArray 91)).heap[w.heap.size]? = some (.cells hv.toArray 91 (0, 0)) := heap_alloc_new w _
  have heq : ∀ W : World, (Op.equalIn 10000 91 (.agg hv.toArray) (.agg zv.toArray)).run Tryz.prog W = .ok (decide (h = z4)) W := fun W => by
    rw [Hhv.out, Hzv.out]; exact eqHead h z4 hl rfl W
  rw [hV]
  obtain ⟨bb, hbb⟩ : ∃ bb : Bool, decide (h = z4) = bb := ⟨_, rfl⟩
  rw [hbb] at heq ⊢
  clear hbb hV
  go_enter Tryz.func101, Tryz.ntmps101
  go_wp2_with (first
    | (refine wpList_load_row rfl 91 _ rfl w.heap.size rfl 91 hv.toArray (0, 0) _ hx1 Tryz.underlying91 rfl hi.out ?_)
    | (refine wpList_buildZ 91 rfl zv.toArray hbz.out (by rfl) ?_))
  go_ret
  exact ⟨rfl, hb1⟩
/-- A depot in block x: on the book in g. -/
def DepAt (x g first boxes : Nat) (w : World) : Prop := w.heap[x]? = some (.cells #[.pointer (some ⟨g, 0, none⟩), .int .i64 first, .int .i64 boxes] 121 (0, 0))
variable {x g first boxes : Nat}
theorem DepAt.cells (h : DepAt x g first boxes w) : w.cell? ⟨x, 0, none⟩ = some (.pointer (some ⟨g, 0, none⟩)) ∧ w.cell? ⟨x, 1, none⟩ = some (.int .i64 first) ∧ w.cell? ⟨x, 2, none⟩ = some (.int .i64 boxes) := by
  refine ⟨?_, ?_, ?_⟩ <;> rw [cell_of_row w x _ _ _ _ h] <;> rfl
theorem DepAt.below {w' : World} (h : DepAt x g first boxes w) (hb : Below w.heap.size w w') : DepAt x g first boxes w' := (hb.block x (Array.getElem?_eq_some_iff.1 h).1).trans h
theorem headAt_any (h : DepAt x g first boxes w) (hf : first ≤ 2048) (box : Nat) (hb : box ≤ 100000) : Calls Tryz.prog 103 #[.pointer (some ⟨x, 0, none⟩), .int .i64 box] w fun e w' => e = .returned (.int .i64 (first + box * 5 : Nat)) ∧ w = w' := by
  obtain ⟨c0, c1, c2⟩ := h.cells
  have w1 : IntKind.i64.wrap ((box : Int) * 5) = (box : Int) * 5 := IntWalk.i64_in _ (by omega)
  clear h
  go_enter Tryz.func103, Tryz.ntmps103
  go_wp2
  go_ret
  exact ⟨by congr 2 <;> omega, rfl⟩
theorem blockAt_any (h : DepAt x g first boxes w) (hf : first ≤ 2048) (slot : Nat) (hs : slot ≤ 100000) : Calls Tryz.prog 71 #[.pointer (some ⟨x, 0, none⟩), .int .i64 slot] w fun e w' => e = .returned (.int .i64 (first + slot / 4 * 5 + 1 + slot % 4 : Nat)) ∧ w = w' := by
  have hh := headAt_any h hf (slot / 4) (by omega)
  obtain ⟨q, hq⟩ : ∃ q, slot / 4 = q := ⟨_, rfl⟩
  obtain ⟨r, hr⟩ : ∃ r, slot % 4 = r := ⟨_, rfl⟩
  rw [hq] at hh ⊢
  rw [hr]
  have hd : ((slot : Int)).tdiv 4 = (q : Int) := by rw [Int.tdiv_eq_ediv_of_nonneg (by omega)]; omega
  have hm : ((slot : Int)).tmod 4 = (r : Int) := by rw [Int.tmod_eq_emod_of_nonneg (by omega)]; omega
  have hr4 : r < 4 := by omega
  have hq4 : q ≤ 100000 := by omega
  obtain ⟨A, hA⟩ : ∃ A, first + q * 5 = A := ⟨_, rfl⟩
  rw [hA] at hh ⊢
  have hA2 : A ≤ 1000000 := by omega
  have Hh := Lib.hid hh
  clear hh hq hr hA h
  go_enter Tryz.func71, Tryz.ntmps71
  go_wp2_with (first | (go_at_call 103; refine Hh.out.mono ?_; rintro e w' ⟨rfl, rfl⟩))
  go_ret
  exact ⟨by congr 2 <;> omega, rfl⟩
theorem depPages_any (n : Int) (hn : 0 ≤ n ∧ n ≤ 100000) : Calls Tryz.prog 33 #[.int .i64 n] w fun e w' => e = .returned (.int .i64 (5 * n)) ∧ w = w' := by
  have w1 : IntKind.i64.wrap (5 * n) = 5 * n := IntWalk.i64_in _ (by omega)
  go_enter Tryz.func33, Tryz.ntmps33
  go_wp2
  go_ret
  exact ⟨by congr 2 <;> omega, rfl⟩
end
end Go.Proofs.YtjkkbceddbkejaaGreatDoor

/-
  Package depot: told, page.
-/
namespace Go.Proofs.YtjkkbceddbkejaaGreatDoor
open Go.RowKit Sh Go.Maps Go.Extern.Stop Go.Stop Go.Extern

/-- The head while it is told. -/
def partH (p : List UInt8) (k : Nat) : List UInt8 := (rawH p).take k ++ List.replicate (4 - k) 0
theorem partH_len {p : List UInt8} (hp : p.length = 64) {k : Nat} (hk : k ≤ 4) : (partH p k).length = 4 := by simp [partH, rawH_len hp]; omega
theorem partH_next {p : List UInt8} (hp : p.length = 64) {k : Nat} (hk : k < 4) {c : UInt8} (hc : p[k]? = some c) : (partH p k).set k (cutH c) = partH p (k + 1) := by
  have hr : (rawH p)[k]? = some (cutH c) := by
    unfold rawH
    rw [List.getElem?_map, List.getElem?_take_of_lt hk, hc]; rfl
  have hl := rawH_len hp
  unfold partH
  have e : 4 - k = (4 - (k + 1)) + 1 := by omega
  rw [e, List.replicate_succ, List.take_add_one, hr]
  have h1 : ((rawH p).take k).length = k := by rw [List.length_take]; omega
  rw [List.set_append_right _ _ (by omega), h1]
  simp
theorem partH_done {p : List UInt8} (hp : p.length = 64) : partH p 4 = rawH p := by
  simp [partH, List.take_of_length_le (Nat.le_of_eq (rawH_len hp))]
theorem min_two (c : UInt8) : min (c.toNat : Int) 2 = ((cutH c).toNat : Int) := by
  unfold cutH
  split
  · omega
  · show _ = (((2 : UInt8).toNat : Nat) : Int)
    have : (2 : UInt8).toNat = 2 := rfl
    rw [this]; omega
section
variable {w : World}
set_option maxRecDepth 100000 in
set_option maxHeartbeats 4000000 in
theorem dtold_any (p : List UInt8) (hp : p.length = 64) : Calls Tryz.prog 108 #[pageV p] w (RetP (headV (toldH p)) w) := by
  obtain ⟨pv, Hpv⟩ : ∃ pv : List Value, Hid (pv = p.map cu8) := ⟨_, rfl⟩
  have hV : pageV p = .agg pv.toArray := by rw [Hpv.out]; rfl
  obtain ⟨zn, Hzn⟩ : ∃ zn : Array Value, Hid (zn = zeroHead) := ⟨_, rfl⟩
  have hal : ∀ w : World, (Instr.alloc 91 true (.tuple #[])).run Tryz.prog w = .ok (.pointer (some ⟨w.heap.size, 0, none⟩)) (w.alloc (.cells zn 91)) := by rw [Hzn.out]; exact allocHead
  have hb1 : Below w.heap.size w (w.alloc (.cells pv.toArray 33)) := (Below.refl _ _).alloc (Nat.le_refl _) _
  have hb2 := hb1.alloc hb1.size (.cells zn 91)
  have hb3 := hb2.alloc hb2.size (.cells zn 91)
  have hx : (((w.alloc (.cells pv.toArray 33)).alloc (.cells zn 91)).alloc (.cells zn 91)).heap[w.heap.size]? = some (.cells pv.toArray 33 (0, 0)) := by
    rw [Below.heap_alloc _ _ _ (by simp; omega), Below.heap_alloc _ _ _ (by simp)]; exact heap_alloc_new w _
  have hy : (((w.alloc (.cells pv.toArray 33)).alloc (.cells zn 91)).alloc (.cells zn 91)).heap[w.heap.size + 1]? = some (.cells zn 91 (0, 0)) := by
    rw [Below.heap_alloc _ _ _ (by simp)]
    have := heap_alloc_new (w.alloc (.cells pv.toArray 33)) (.cells zn 91)
    simpa using this
  have hz : (((w.alloc (.cells pv.toArray 33)).alloc (.cells zn 91)).alloc (.cells zn 91)).heap[w.heap.size + 1 + 1]? = some (.cells zn 91 (0, 0)) := by
    have := heap_alloc_new ((w.alloc (.cells pv.toArray 33)).alloc (.cells zn 91)) (.cells zn 91)
    simpa using this
  rw [hV]
  clear hV hb1 hb2
  go_enter Tryz.func108, Tryz.ntmps108
  go_upto_region 2 with (first
    | (refine wpList_alloc_arr rfl 91 rfl _ hal ?_))
  try simp only [World.size_alloc]
  generalize ((w.alloc (.cells pv.toArray 33)).alloc (.cells zn 91)).alloc (.cells zn 91) = wa at hx hy hz hb3 ⊢
  obtain ⟨x, hxe⟩ : ∃ x, w.heap.size = x := ⟨_, rfl⟩
  obtain ⟨y, hye⟩ : ∃ y, x + 1 = y := ⟨_, rfl⟩
  obtain ⟨z, hze⟩ : ∃ z, y + 1 = z := ⟨_, rfl⟩
  rw [hxe] at hx hy hz hb3 ⊢
  rw [hye] at hy hz ⊢
  rw [hze] at hz ⊢
  have hz0 : wa.heap[z]? = some (.cells ((partH p 0).map cu8).toArray 91 (0, 0)) := by
    rw [hz, Hzn.out]; rfl
  have Hxe := Lib.hid hxe
  have hxyz : x < y ∧ y < z := by omega
  clear hz hxe hye hze hal
  go_wp2
  go_loopg [5] 4 (fun m v wr => ∃ k : Nat, m = 4 - k ∧ k ≤ 4 ∧ v = .int .i64 k ∧ Below x w wr ∧ wr.heap[x]? = some (.cells pv.toArray 33 (0, 0)) ∧ wr.heap[y]? = some (.cells zn 91 (0, 0)) ∧ wr.heap[z]? = some (.cells ((partH p k).map cu8).toArray 91 (0, 0)))
  case atStart => exact ⟨0, rfl, by omega, rfl, hb3, hx, hy, hz0⟩
  case round =>
    clear hx hy hz0 hb3
    obtain ⟨k, rfl, hk, rfl, hb, hx, hy, hz⟩ := hrel
    by_cases hlt : k < 4
    · have hlt' : (k : Int) < 4 := by omega
      obtain ⟨c, hc⟩ : ∃ c, p[k]? = some c := ⟨_, List.getElem?_eq_getElem (by omega)⟩
      have hnx := partH_next hp hlt hc
      have hpl := partH_len hp (show k ≤ 4 by omega)
      have cx : wr.cell? ⟨x, k, none⟩ = some (.int .u8 (c.toNat : Int)) := by
        rw [cell_of_row wr x k _ _ _ hx, List.getElem?_toArray, Hpv.out, List.getElem?_map, hc, ← cu8_nat]; rfl
      have cz : ∃ u, wr.cell? ⟨z, k, none⟩ = some u := by
        rw [cell_of_row wr z k _ _ _ hz, List.getElem?_toArray]
        exact ⟨_, List.getElem?_eq_getElem (by rw [List.length_map, hpl]; exact hlt)⟩
      obtain ⟨u, cz⟩ := cz
      have fz : wr.frozen? ⟨z, k, none⟩ = false := by simp [World.frozen?, hz]
      have hmn := min_two c
      obtain ⟨C, hC⟩ : ∃ C : Int, (c.toNat : Int) = C := ⟨_, rfl⟩
      rw [hC] at cx hmn
      have hset : (wr.setCell ⟨z, k, none⟩ (.int .u8 ((cutH c).toNat : Int))).heap[z]? = some (.cells ((partH p (k + 1)).map cu8).toArray 91 (0, 0)) := by
        rw [← hnx, List.map_set, cu8_nat (cutH c)]
        simp [World.setCell, Array.getElem?_modify, hz]
      have hg := grown_setCell wr ⟨z, k, none⟩ (.int .u8 ((cutH c).toNat : Int))
      obtain ⟨D, hD⟩ : ∃ D : Int, ((cutH c).toNat : Int) = D := ⟨_, rfl⟩
      rw [hD] at hmn hset hg
      have hxl := (Array.getElem?_eq_some_iff.1 hx).1
      have hyl := (Array.getElem?_eq_some_iff.1 hy).1
      have hx' := (hg.block x hxl (by simp; omega)).trans hx
      have hy' := (hg.block y hyl (by simp; omega)).trans hy
      have hb' : Below x w (wr.setCell ⟨z, k, none⟩ (.int .u8 D)) := hb.trans ((Only.of_grown (F := fun j => j = z) hg (fun j e => by simpa using e.symm)).base (by omega) (fun j hj => by have e : j = z := hj; omega))
      have HX := Lib.hid hx'; have HY := Lib.hid hy'; have HB := Lib.hid hb'; have HZ := Lib.hid hset
      clear hnx hpl hc hset hg hx hy hz hx' hy' hb' hb hC hD
      go_wp2
      go_roundg (4 - (k + 1))
      case measure => omega
      case rel => exact ⟨k + 1, rfl, by omega, by go_num, HB.out, HX.out, HY.out, HZ.out⟩
    · obtain rfl : k = 4 := by omega
      clear hlt
      rw [partH_done hp] at hz
      have hrl := rawH_len hp
      obtain ⟨rv, Hrv⟩ : ∃ rv : List Value, Hid (rv = (rawH p).map cu8) := ⟨_, rfl⟩
      rw [← Hrv.out] at hz
      have hrvl : rv.length = 4 := by rw [Hrv.out]; simp [hrl]
      have hi : Hid ((Tryz.prog.info? 91).map (·.size) = some rv.toArray.size) := by rw [List.size_toArray, hrvl]; exact infoHead
      have hct := hcount_any (w := wr) (rawH p) hrl 1
      have hV : headV (rawH p) = .agg rv.toArray := by rw [Hrv.out]; rfl
      have c1 : cu8 1 = .int .u8 1 := rfl
      rw [hV, c1] at hct
      obtain ⟨N, hN⟩ : ∃ N, (rawH p).count 1 = N := ⟨_, rfl⟩
      rw [hN] at hct
      have Hct := Lib.hid hct
      have HN := Lib.hid hN
      obtain ⟨zv, Hzv⟩ : ∃ zv : List Value, Hid (zv = z4.map cu8) := ⟨_, rfl⟩
      have hbz : Hid (Tryz.prog.built 91 [] = some zv.toArray) := by rw [Hzv.out]; exact built_head
      have hzi : Hid ((Tryz.prog.info? 91).map (·.size) = some zv.toArray.size) := by rw [Hzv.out]; exact infoHead
      have hzs : Hid (zn.size = zv.toArray.size) := by rw [Hzv.out, Hzn.out]; exact (rfl : zeroHead.size = 4)
      have hzr : Hid (zn.size = rv.toArray.size) := by
        have e : rv.toArray.size = 4 := by rw [List.size_toArray, hrvl]
        rw [e, Hzn.out]; exact (rfl : zeroHead.size = 4)
      have hz1 : Hid (zv.toArray.all (·.oneCell') = true) := by rw [Hzv.out]; exact bytes_one _
      have hr1 : Hid (rv.toArray.all (·.oneCell') = true) := by rw [Hrv.out]; exact bytes_one _
      clear hct hN hV c1 hx
      go_wp2_with (first
        | (refine wpList_load_row rfl 91 _ rfl z rfl 91 rv.toArray (0, 0) _ hz Tryz.underlying91 rfl hi.out ?_)
        | (go_at_call 40; refine Hct.out.mono ?_))
      rintro e w5 ⟨rfl, hb5⟩
      have hyl := (Array.getElem?_eq_some_iff.1 hy).1
      have hzl := (Array.getElem?_eq_some_iff.1 hz).1
      have hy5 := (hb5.block y hyl).trans hy
      have hz5 := (hb5.block z hzl).trans hz
      have hb05 := hb.trans (hb5.mono (by have := hb.size; have := Hxe.out; omega))
      clear Hct hb5 hb hy hz
      by_cases n0 : N = 0
      · subst n0
        go_wp2_with (first
          | (refine wpList_buildZ 91 rfl zv.toArray hbz.out (by rfl) ?_)
          | (refine wpList_store_row rfl 91 _ _ rfl y zv.toArray rfl rfl 91 zn hy5 hzi.out hzs.out hz1.out ?_))
        have hb6 := below_setRow (g := y) hb05 (by omega) zv.toArray
        have eT : toldH p = z4 := by unfold toldH; rw [if_pos HN.out]; rfl
        refine bodyPost_ret (v := .agg zv.toArray) ?_ rfl ⟨by rw [eT, Hzv.out]; rfl, by rw [Hxe.out]; exact hb6⟩
        exact results_cell_row (ty := 91) rfl _ _ y 91 _ (0, 0) _ rfl (setRow_heap _ _ _ _ _ _ hy5) Tryz.underlying91 rfl hzi.out
      · have n1 : ¬ ((N : Int) = 0) := by omega
        go_wp2_with (first
          | (refine wpList_load_row rfl 91 _ rfl z rfl 91 rv.toArray (0, 0) _ hz5 Tryz.underlying91 rfl hi.out ?_)
          | (refine wpList_store_row rfl 91 _ _ rfl y rv.toArray rfl rfl 91 zn hy5 hi.out hzr.out hr1.out ?_))
        have hb6 := below_setRow (g := y) hb05 (by omega) rv.toArray
        have eT : toldH p = rawH p := by unfold toldH; rw [if_neg (by rw [HN.out]; exact n0)]
        refine bodyPost_ret (v := .agg rv.toArray) ?_ rfl ⟨by rw [eT, Hrv.out]; rfl, by rw [Hxe.out]; exact hb6⟩
        exact results_cell_row (ty := 91) rfl _ _ y 91 _ (0, 0) _ rfl (setRow_heap _ _ _ _ _ _ hy5) Tryz.underlying91 rfl hi.out
end
end Go.Proofs.YtjkkbceddbkejaaGreatDoor

/-
  Package depot: a head's page.
-/
namespace Go.Proofs.YtjkkbceddbkejaaGreatDoor
open Go.RowKit Sh Go.Maps Go.Extern.Stop Go.Stop Go.Extern

section
variable {w : World}
set_option maxRecDepth 100000 in
set_option maxHeartbeats 4000000 in
theorem hpage_any (h : List UInt8) (hl : h.length = 4) : Calls Tryz.prog 104 #[headV h] w (RetP (pageV (pageH h)) w) := by
  obtain ⟨hv, Hhv⟩ : ∃ hv : List Value, Hid (hv = h.map cu8) := ⟨_, rfl⟩
  have hV : headV h = .agg hv.toArray := by rw [Hhv.out]; rfl
  have hvl : hv.length = 4 := by rw [Hhv.out]; simp [hl]
  obtain ⟨zl, Hzl⟩ : ∃ zl : List Value, Hid (zl = (List.replicate 64 (0 : UInt8)).map cu8) := ⟨_, rfl⟩
  have hzl : zl.length = 64 := by rw [Hzl.out]; simp
  have hal : ∀ w : World, (Instr.alloc 33 true (.tuple #[])).run Tryz.prog w = .ok (.pointer (some ⟨w.heap.size, 0, none⟩)) (w.alloc (.cells zl.toArray 33)) := by
    rw [Hzl.out, ← zerosV]; exact alloc64
  have hb1 : Below w.heap.size w (w.alloc (.cells hv.toArray 91)) := (Below.refl _ _).alloc (Nat.le_refl _) _
  have hb2 := hb1.alloc hb1.size (.cells zl.toArray 33)
  have hb3 := hb2.alloc hb2.size (.cells zl.toArray 33)
  have hx : (((w.alloc (.cells hv.toArray 91)).alloc (.cells zl.toArray 33)).alloc (.cells zl.toArray 33)).heap[w.heap.size]? = some (.cells hv.toArray 91 (0, 0)) := by
    rw [Below.heap_alloc _ _ _ (by simp; omega), Below.heap_alloc _ _ _ (by simp)]; exact heap_alloc_new w _
  have hy : (((w.alloc (.cells hv.toArray 91)).alloc (.cells zl.toArray 33)).alloc (.cells zl.toArray 33)).heap[w.heap.size + 1]? = some (.cells zl.toArray 33 (0, 0)) := by
    rw [Below.heap_alloc _ _ _ (by simp)]
    have := heap_alloc_new (w.alloc (.cells hv.toArray 91)) (.cells zl.toArray 33)
    simpa using this
  have hz : (((w.alloc (.cells hv.toArray 91)).alloc (.cells zl.toArray 33)).alloc (.cells zl.toArray 33)).heap[w.heap.size + 1 + 1]? = some (.cells zl.toArray 33 (0, 0)) := by
    have := heap_alloc_new ((w.alloc (.cells hv.toArray 91)).alloc (.cells zl.toArray 33)) (.cells zl.toArray 33)
    simpa using this
  have Hone : Hid (∀ v ∈ hv, v.oneCell' = true) := by
    have : ∀ v ∈ hv, v.oneCell' = true := fun v hv' => by rw [Hhv.out] at hv'; obtain ⟨c, _, rfl⟩ := List.mem_map.1 hv'; rfl
    exact this
  rw [hV]
  clear hV hb1 hb2
  go_enter Tryz.func104, Tryz.ntmps104
  go_upto_region 2 with (first
    | (refine wpList_alloc_arr rfl 33 rfl _ hal ?_))
  try simp only [World.size_alloc]
  generalize ((w.alloc (.cells hv.toArray 91)).alloc (.cells zl.toArray 33)).alloc (.cells zl.toArray 33) = wa at hx hy hz hb3 ⊢
  obtain ⟨x, hxe⟩ : ∃ x, w.heap.size = x := ⟨_, rfl⟩
  obtain ⟨y, hye⟩ : ∃ y, x + 1 = y := ⟨_, rfl⟩
  obtain ⟨z, hze⟩ : ∃ z, y + 1 = z := ⟨_, rfl⟩
  rw [hxe] at hx hy hz hb3 ⊢
  rw [hye] at hy hz ⊢
  rw [hze] at hz ⊢
  have Hxe := Lib.hid hxe
  have hxyz : x < y ∧ y < z := by omega
  have hbd : Below x w { wa with drawn := wa.drawn + 1 } := hb3.drew
  have hxd : ({ wa with drawn := wa.drawn + 1 } : World).heap[x]? = some (.cells hv.toArray 91 (0, 0)) := hx
  have hyd : ({ wa with drawn := wa.drawn + 1 } : World).heap[y]? = some (.cells zl.toArray 33 (0, 0)) := hy
  have hzd : ({ wa with drawn := wa.drawn + 1 } : World).heap[z]? = some (.cells zl.toArray 33 (0, 0)) := hz
  obtain ⟨wd, hdr⟩ : ∃ wd : World, ({ wa with drawn := wa.drawn + 1 } : World) = wd := ⟨_, rfl⟩
  refine wp_region_up 2 (fun v => v = wd) (by kernel_rfl) ?_
  rw [hdr] at hbd hxd hyd hzd ⊢
  have hS : wd = wd := rfl
  have hsrc : ∀ j v, hv[j]? = some v → wd.cell? ((⟨x, 0, none⟩ : Addr).add j) = some v := fun j v hj => by
    have : ((⟨x, 0, none⟩ : Addr).add j) = ⟨x, j, none⟩ := by unfold Addr.add; split <;> simp_all
    rw [this, cell_of_row wd x j _ _ _ hxd, List.getElem?_toArray]; exact hj
  clear hdr hx hy hz hb3 hxe hye hze hal
  refine up_take (i := 0) (v := .slice (some ⟨z, 0, none⟩) 64 64) rfl (by kernel_rfl) (by kernel_rfl) (fun _ _ _ h => h) (Or.inl ⟨by rfl, ?_⟩) hS ?_
  · intro w' _; go_simp
  try simp only [List.getElem_toArray, List.getElem_cons_succ, List.getElem_cons_zero, Act.put, List.setIfInBounds_toArray, List.set]
  refine up_take (i := 1) (v := .slice (some ⟨x, 0, none⟩) 4 4) rfl (by kernel_rfl) (by kernel_rfl) (fun _ _ _ h => h) (Or.inl ⟨by rfl, ?_⟩) hS ?_
  · intro w' _; go_simp
  try simp only [List.getElem_toArray, List.getElem_cons_succ, List.getElem_cons_zero, Act.put, List.setIfInBounds_toArray, List.set]
  refine up_tail ?_
  refine up_last 2 _ rfl (by kernel_rfl) (by decide) (by rfl) (fun K hK => ?_)
  refine wp_copy_into rfl _ _ 169 169 rfl 5 Tryz.underlying169 (by kernel_rfl) z 0 64 64 ⟨x, 0, none⟩ 4 4 rfl rfl zl 33 hzd hv (by rw [hvl]; rfl) hsrc (by rw [hvl, hzl]; omega) Hone.out ?_
  intro w4 Hs4 Hg4
  refine hK _ _ ?_
  clear hK K
  try simp only [List.getElem_toArray, List.getElem_cons_succ, List.getElem_cons_zero, Act.put, List.setIfInBounds_toArray, List.set]
  refine up_done (by kernel_rfl) ?_ _
  have hsp : splice zl 0 hv = (pageH h).map cu8 := by
    rw [Hzl.out, Hhv.out]
    simp [splice, pageH, hl]
  have hzr : Hid (w4.heap[z]? = some (.cells ((pageH h).map cu8).toArray 33 (0, 0))) := by
    have := Hs4.out
    rw [hsp] at this; exact this
  have hyl := (Array.getElem?_eq_some_iff.1 hyd).1
  have hy4 := (Hg4.out.block y hyl (by simp; omega)).trans hyd
  have hb4 := hbd.trans ((Only.of_grown (F := fun j => j = z) Hg4.out (fun j e => by simpa using e.symm)).base (by have := (Array.getElem?_eq_some_iff.1 hxd).1; omega) (fun j hj => by have e : j = z := hj; omega))
  obtain ⟨qv, Hqv⟩ : ∃ qv : List Value, Hid (qv = (pageH h).map cu8) := ⟨_, rfl⟩
  have hqi : Hid ((Tryz.prog.info? 33).map (·.size) = some qv.toArray.size) := by rw [Hqv.out]; exact pageInfo (pageH_len hl)
  have hqz : Hid (zl.toArray.size = qv.toArray.size) := by
    have e : qv.toArray.size = 64 := by rw [List.size_toArray, Hqv.out]; simp [pageH_len hl]
    rw [e]
    have : zl.toArray.size = 64 := by rw [List.size_toArray, hzl]
    exact this
  have hq1 : Hid (qv.toArray.all (·.oneCell') = true) := by rw [Hqv.out]; exact bytes_one _
  have hqV : pageV (pageH h) = .agg qv.toArray := by rw [Hqv.out]; rfl
  rw [← Hqv.out] at hzr
  have hzr' := hzr.out
  clear hsp Hs4 Hg4 hyd hzd hxd hbd hsrc hyl hzr
  go_wp2_with (first
    | (refine wpList_load_row rfl 33 _ rfl z rfl 33 qv.toArray (0, 0) _ hzr' Tryz.underlying33 rfl hqi.out ?_)
    | (refine wpList_store_row rfl 33 _ _ rfl y qv.toArray rfl rfl 33 zl.toArray hy4 hqi.out hqz.out hq1.out ?_))
  have hb6 := below_setRow (g := y) hb4 (by omega) qv.toArray
  refine bodyPost_ret (v := .agg qv.toArray) ?_ rfl ⟨by first | rfl | rw [hqV], by rw [Hxe.out]; exact hb6⟩
  exact results_cell_row (ty := 33) rfl _ _ y 33 _ (0, 0) _ rfl (setRow_heap _ _ _ _ _ _ hy4) Tryz.underlying33 rfl hqi.out
end
end Go.Proofs.YtjkkbceddbkejaaGreatDoor

/-
  Package depot: New; a depot that is none.
-/
namespace Go.Proofs.YtjkkbceddbkejaaGreatDoor
open Go.RowKit Sh Go.Maps Go.Extern.Stop Go.Stop Go.Extern

section
variable {w : World}
def NewDP (g first boxes : Nat) (w : World) (e : Ending) (w' : World) : Prop := ∃ x, e = .returned (.tuple #[.pointer (some ⟨x, 0, none⟩), .nilIface]) ∧ DepAt x g first boxes w' ∧ Below w.heap.size w w' ∧ w.heap.size ≤ x
/-- New: what fits. -/
theorem depNew_ok {g P : Nat} (hp : Calls Tryz.prog 47 #[.pointer (some ⟨g, 0, none⟩)] w fun e w' => e = .returned (.int .i64 P) ∧ w = w') (hP : P ≤ 2048) (first boxes : Nat) (h1 : 1 ≤ boxes) (h2 : boxes ≤ 64) (h3 : first + 5 * boxes ≤ P) :
    Calls Tryz.prog 27 #[.pointer (some ⟨g, 0, none⟩), .int .i64 first, .int .i64 boxes] w (NewDP g first boxes w) := by
  have Hp := Lib.hid hp
  have Hd := Lib.hid (depPages_any (w := w) boxes (by omega))
  have k1 : ¬ ((first : Int) < 0) := by omega
  have k2 : ¬ ((boxes : Int) < 1) := by omega
  have k3 : ¬ (64 < (boxes : Int)) := by omega
  have k4 : ¬ ((P : Int) - 5 * boxes < first) := by omega
  have hb := (Below.refl w.heap.size w).alloc (Nat.le_refl _) (.cells #[.pointer (some ⟨g, 0, none⟩), .int .i64 first, .int .i64 boxes] 121)
  have hx := heap_alloc_new w (.cells #[.pointer (some ⟨g, 0, none⟩), .int .i64 first, .int .i64 boxes] 121)
  have Hfin := Lib.hid (show NewDP g first boxes w (.returned (.tuple #[.pointer (some ⟨w.heap.size, 0, none⟩), .nilIface])) (w.alloc (.cells #[.pointer (some ⟨g, 0, none⟩), .int .i64 first, .int .i64 boxes] 121)) from ⟨_, rfl, hx, hb, Nat.le_refl _⟩)
  clear hp hb hx
  go_enter Tryz.func27, Tryz.ntmps27
  go_wp2_with (first
    | (go_at_call 47; refine Hp.out.mono ?_; rintro e w' ⟨rfl, rfl⟩)
    | (go_at_call 33; refine Hd.out.mono ?_; rintro e w' ⟨rfl, rfl⟩))
  refine bodyPost_ret (v := .tuple #[.pointer (some ⟨w.heap.size, 0, none⟩), .nilIface]) (by simp [results, Tryz.results27, go_sem]) rfl ?_
  exact Hfin.out
def NoDep (n : Int) (w : World) (e : Ending) (w' : World) : Prop := ∃ v, e = .returned (.tuple #[.pointer none, v]) ∧ ErrV w' n v ∧ Below w.heap.size w w'
set_option maxHeartbeats 2000000 in
/-- New: what is refused. -/
theorem depNew_bad {g P : Nat} (hp : Calls Tryz.prog 47 #[.pointer (some ⟨g, 0, none⟩)] w fun e w' => e = .returned (.int .i64 P) ∧ w = w') (hP : P ≤ 2048) (first boxes : Int) (hf : -9223372036854775808 ≤ first ∧ first ≤ 9223372036854775807) (hbad : first < 0 ∨ boxes < 1 ∨ 64 < boxes ∨ (P : Int) - 5 * boxes < first) :
    Calls Tryz.prog 27 #[.pointer (some ⟨g, 0, none⟩), .int .i64 first, .int .i64 boxes] w (NoDep 1 w) := by
  have Hp := Lib.hid hp
  have Hi := Lib.hid (in_err ⟨#[100, 101, 112, 111, 116, 46, 78, 101, 119]⟩ 1 (.iface 84 (.int .i64 1)) w (.inr ⟨by decide, [], rfl⟩))
  clear hp
  by_cases h1 : first < 0
  · clear hbad
    go_enter Tryz.func27, Tryz.ntmps27
    go_wp2_with (first
      | (go_at_call 35; refine Hi.out.mono ?_))
    rintro e w2 ⟨v2, rfl, hE2, hb2⟩
    have Hfin := Lib.hid (show NoDep 1 w (.returned (.tuple #[.pointer none, v2])) w2 from ⟨v2, rfl, hE2, hb2⟩)
    clear hE2 hb2 Hi
    go_wp2
    refine bodyPost_ret (v := .tuple #[.pointer none, v2]) (by simp [results, Tryz.results27, go_sem]) rfl Hfin.out
  by_cases h2 : boxes < 1
  · clear hbad
    go_enter Tryz.func27, Tryz.ntmps27
    go_wp2_with (first
      | (go_at_call 35; refine Hi.out.mono ?_))
    rintro e w2 ⟨v2, rfl, hE2, hb2⟩
    have Hfin := Lib.hid (show NoDep 1 w (.returned (.tuple #[.pointer none, v2])) w2 from ⟨v2, rfl, hE2, hb2⟩)
    clear hE2 hb2 Hi
    go_wp2
    refine bodyPost_ret (v := .tuple #[.pointer none, v2]) (by simp [results, Tryz.results27, go_sem]) rfl Hfin.out
  by_cases h3 : 64 < boxes
  · clear hbad
    go_enter Tryz.func27, Tryz.ntmps27
    go_wp2_with (first
      | (go_at_call 35; refine Hi.out.mono ?_))
    rintro e w2 ⟨v2, rfl, hE2, hb2⟩
    have Hfin := Lib.hid (show NoDep 1 w (.returned (.tuple #[.pointer none, v2])) w2 from ⟨v2, rfl, hE2, hb2⟩)
    clear hE2 hb2 Hi
    go_wp2
    refine bodyPost_ret (v := .tuple #[.pointer none, v2]) (by simp [results, Tryz.results27, go_sem]) rfl Hfin.out
  have h4 : (P : Int) - 5 * boxes < first := by omega
  have Hd := Lib.hid (depPages_any (w := w) boxes (by omega))
  clear hbad
  go_enter Tryz.func27, Tryz.ntmps27
  go_wp2_with (first
    | (go_at_call 47; refine Hp.out.mono ?_; rintro e w' ⟨rfl, rfl⟩)
    | (go_at_call 33; refine Hd.out.mono ?_; rintro e w' ⟨rfl, rfl⟩)
    | (go_at_call 35; refine Hi.out.mono ?_))
  rintro e w2 ⟨v2, rfl, hE2, hb2⟩
  have Hfin := Lib.hid (show NoDep 1 w (.returned (.tuple #[.pointer none, v2])) w2 from ⟨v2, rfl, hE2, hb2⟩)
  clear hE2 hb2 Hi
  go_wp2
  refine bodyPost_ret (v := .tuple #[.pointer none, v2]) (by simp [results, Tryz.results27, go_sem]) rfl Hfin.out
end
end Go.Proofs.YtjkkbceddbkejaaGreatDoor

/-
  Package depot: a depot that is none.
-/
namespace Go.Proofs.YtjkkbceddbkejaaGreatDoor
open Go.RowKit Sh Go.Maps Go.Extern.Stop Go.Stop Go.Extern

section
variable {w : World}
set_option maxRecDepth 100000 in
set_option maxHeartbeats 8000000 in
/-- Get, where get answers. -/
theorem dGet_of {bp : Value} {i n : Int} {q : List UInt8} (hql : q.length = 64) (hpg : Calls Tryz.prog 38 #[bp, .int .i64 i] (w.alloc (.cells zeros64 33)) (PageP q n (w.alloc (.cells zeros64 33)))) :
    Calls Tryz.prog 13 #[bp, .int .i64 i] w (PageP q n w) := by
  obtain ⟨hb1, hr1⟩ := page_box0 w
  obtain ⟨zv, Hz⟩ : ∃ zv : Array Value, Hid (zv = zeros64) := ⟨_, rfl⟩
  have hal : ∀ w : World, (Instr.alloc 33 true (.tuple #[])).run Tryz.prog w = .ok (.pointer (some ⟨w.heap.size, 0, none⟩)) (w.alloc (.cells zv 33)) := by rw [Hz.out]; exact alloc64
  rw [← Hz.out] at hb1 hr1 hpg
  have Hpg := Lib.hid hpg
  obtain ⟨qv, Hqv⟩ : ∃ qv : List Value, Hid (qv = q.map cu8) := ⟨_, rfl⟩
  have hqV : pageV q = .agg qv.toArray := by rw [Hqv.out]; rfl
  have hqi : Hid ((Tryz.prog.info? 33).map (·.size) = some qv.toArray.size) := by rw [Hqv.out]; exact pageInfo hql
  have hqz : Hid (zv.size = qv.toArray.size) := by rw [Hqv.out, Hz.out]; exact pageZ hql
  have hq1 : Hid (qv.toArray.all (·.oneCell') = true) := by rw [Hqv.out]; exact bytes_one _
  clear hpg
  go_enter Tryz.func13, Tryz.ntmps13
  go_wp2_with (first
    | (refine wpList_alloc_arr rfl 33 rfl _ hal ?_)
    | (go_at_call 38; refine Hpg.out.mono ?_))
  generalize w.alloc (.cells zv 33) = w1 at hb1 hr1 Hpg ⊢
  obtain ⟨r, hr⟩ : ∃ r, w.heap.size = r := ⟨_, rfl⟩
  rw [hr] at hr1 hb1 ⊢
  have Hr := Lib.hid hr
  rintro e w2 ⟨v2, rfl, hE2, hb2⟩
  rw [hqV]
  have hrl1 : r < w1.heap.size := (Array.getElem?_eq_some_iff.1 hr1).1
  have hr2 := (hb2.block r hrl1).trans hr1
  have hbel2 := hb1.trans (hb2.mono (by omega))
  clear hr Hpg hr1 hb1
  go_upto_region 2 with (first
    | (refine wpList_alloc_arr rfl 33 rfl _ hal ?_)
    | (refine wpList_store_new rfl 33 _ _ rfl w2.heap.size rfl qv.toArray rfl rfl 33 _ hqi.out hqz.out hq1.out ?_))
  have hrl2 : r < w2.heap.size := (Array.getElem?_eq_some_iff.1 hr2).1
  have hb3 : Below w2.heap.size w2 (w2.alloc (.cells qv.toArray 33)) := (Below.refl _ _).alloc (Nat.le_refl _) _
  have hy3 : (w2.alloc (.cells qv.toArray 33)).heap[w2.heap.size]? = some (.cells qv.toArray 33 (0, 0)) := heap_alloc_new w2 _
  have hr3 := (hb3.block r hrl2).trans hr2
  have hE3 := hE2.below hb3
  have hbel3 := hbel2.trans (hb3.mono (by omega))
  generalize w2.alloc (.cells qv.toArray 33) = w3 at hb3 hy3 hr3 hE3 hbel3 ⊢
  obtain ⟨y, hy⟩ : ∃ y, w2.heap.size = y := ⟨_, rfl⟩
  rw [hy] at hy3 ⊢
  clear hy hb3 hr2 hE2 hb2 hbel2 hrl2 hrl1
  have hyl : y < w3.heap.size := (Array.getElem?_eq_some_iff.1 hy3).1
  have hrl3 : r < w3.heap.size := (Array.getElem?_eq_some_iff.1 hr3).1
  have hqi2 : Hid ((Tryz.prog.info? 33).map (·.size) = some qv.length) := by have := hqi.out; rwa [List.size_toArray] at this
  have HL := Lib.hid (fun W (hW : Below w3.heap.size w3 W) => run_loadAt_mid (P := Tryz.prog) W y 0 33 qv _ (fun j v hj => by rw [Nat.zero_add, cell_of_row W y j _ _ _ ((hW.block y hyl).trans hy3)]; simpa using hj) Tryz.underlying33 rfl hqi2.out)
  have Hin := Lib.hid (fun W (hW : Below w3.heap.size w3 W) => in_err ⟨#[100, 101, 112, 111, 116, 46, 71, 101, 116]⟩ n v2 W (hE3.below hW))
  refine wp_region_up 3 (fun w' => Below w3.heap.size w3 w') (by kernel_rfl) ?_
  have hb4 : Below w3.heap.size w3 { w3 with drawn := w3.drawn + 1 } := ⟨rfl, rfl, rfl, Nat.le_refl _, fun _ _ => rfl⟩
  obtain ⟨wd, hdr⟩ : ∃ wd : World, ({ w3 with drawn := w3.drawn + 1 } : World) = wd := ⟨_, rfl⟩
  rw [hdr] at hb4 ⊢
  clear hdr
  refine up_take (i := 0) (v := .agg qv.toArray) rfl (by kernel_rfl) (by kernel_rfl) (fun _ _ _ h => h) (Or.inl ⟨by rfl, ?_⟩) hb4 ?_
  · intro w' hS'; exact exec_load _ _ 33 _ rfl y 0 rfl _ (HL.out w' hS')
  try simp only [List.getElem_toArray, List.getElem_cons_succ, List.getElem_cons_zero, Act.put, List.setIfInBounds_toArray, List.set]
  refine up_take (i := 1) (v := v2) rfl (by kernel_rfl) (by kernel_rfl) (fun _ _ _ h => h) (Or.inl ⟨by rfl, ?_⟩) hb4 ?_
  · intro w' _; go_simp
  try simp only [List.getElem_toArray, List.getElem_cons_succ, List.getElem_cons_zero, Act.put, List.setIfInBounds_toArray, List.set]
  refine up_one 2 _ rfl (by kernel_rfl) (by decide) (by rfl) (fun K hK => ?_)
  go_simp
  refine (Hin.out _ hb4).mono ?_
  rintro e w5 ⟨v5, rfl, hE5, hq⟩
  have hb5 := hb4.trans (hq.mono hb4.size)
  refine hK _ _ hb5 ?_
  clear hK K
  try simp only [List.getElem_toArray, List.getElem_cons_succ, List.getElem_cons_zero, Act.put, List.setIfInBounds_toArray, List.set]
  clear hq
  refine up_tail ?_
  refine up_last 3 _ rfl (by kernel_rfl) (by decide) (by rfl) (fun K hK => ?_)
  refine wp_store_whole 33 _ _ rfl r qv.toArray rfl rfl zv 33 ((hb5.block r hrl3).trans hr3) hqi.out hqz.out hq1.out ?_
  intro w6 Hs6 Hg6
  refine hK _ _ ?_
  clear hK K
  try simp only [List.getElem_toArray, List.getElem_cons_succ, List.getElem_cons_zero, Act.put, List.setIfInBounds_toArray, List.set]
  refine up_last 4 _ rfl (by kernel_rfl) (by decide) (by rfl) (fun K hK => ?_)
  go_simp
  refine hK _ _ ?_
  clear hK K
  try simp only [List.getElem_toArray, List.getElem_cons_succ, List.getElem_cons_zero, Act.put, List.setIfInBounds_toArray, List.set]
  refine up_done (by kernel_rfl) ?_ _
  have hr6 := Hs6.out
  have hbel6 : Below r w w6 := below_of_grown (hbel3.trans (hb5.mono (by omega))) Hg6.out (by have := hb5.size; have := hbel3.size; have := Hr.out; omega) (Nat.le_refl _)
  have hE6 : ErrV w6 n v5 := hE5.other (r := r) (fun s => by
    rw [cell_of_row w5 r 0 _ _ _ ((hb5.block r hrl3).trans hr3), Hz.out, zerosV]
    simp [cu8]) Hg6.out
  clear Hs6 Hg6 hE5 hb5 hb4 hbel3 hr3
  go_wp2
  refine bodyPost_ret (v := .tuple #[.agg qv.toArray, v5]) ?_ rfl ⟨v5, by rw [hqV], hE6, by rw [Hr.out]; exact hbel6⟩
  exact results_cell_row_tmp (ty := 33) rfl _ _ r 33 _ (0, 0) _ rfl hr6 Tryz.underlying33 rfl hqi.out _ rfl
set_option maxRecDepth 100000 in
theorem dget_nil (w : World) (i : Int) : Calls Tryz.prog 38 #[.pointer none, .int .i64 i] w (PageP (List.replicate 64 0) 1 w) := by
  obtain ⟨hb1, hr1⟩ := page_box0 w
  obtain ⟨zv, Hz⟩ : ∃ zv : Array Value, Hid (zv = zeros64) := ⟨_, rfl⟩
  have hbz : Hid (Tryz.prog.built 33 [] = some zv) := by rw [Hz.out]; exact built64
  have hal : ∀ w : World, (Instr.alloc 33 true (.tuple #[])).run Tryz.prog w = .ok (.pointer (some ⟨w.heap.size, 0, none⟩)) (w.alloc (.cells zv 33)) := by rw [Hz.out]; exact alloc64
  rw [← Hz.out] at hb1 hr1
  have hzi : Hid ((Tryz.prog.info? 33).map (·.size) = some zv.size) := by rw [Hz.out, zerosV]; exact pageInfo (by simp)
  have hz1 : Hid (zv.all (·.oneCell') = true) := by rw [Hz.out, zerosV]; exact bytes_one _
  have Hr1 := Lib.hid hr1
  clear hr1
  go_enter Tryz.func38, Tryz.ntmps38
  go_wp2_with (first
    | (refine wpList_alloc_arr rfl 33 rfl _ hal ?_)
    | (refine wpList_buildZ 33 rfl zv hbz.out (by rfl) ?_)
    | (refine wpList_store_row rfl 33 _ _ rfl w.heap.size zv rfl rfl 33 zv Hr1.out hzi.out rfl hz1.out ?_))
  have hb2 := below_setRow (g := w.heap.size) hb1 (Nat.le_refl _) zv
  refine bodyPost_ret (v := .tuple #[.agg zv, .iface 84 (.int .i64 1)]) ?_ rfl ⟨_, by rw [Hz.out, zerosV]; rfl, .inr ⟨by decide, [], rfl⟩, hb2⟩
  exact results_cell_row_tmp (ty := 33) rfl _ _ w.heap.size 33 _ (0, 0) _ rfl (setRow_heap _ _ _ _ _ _ Hr1.out) Tryz.underlying33 rfl hzi.out _ rfl
theorem dGet_nil (w : World) (i : Int) : Calls Tryz.prog 13 #[.pointer none, .int .i64 i] w (PageP (List.replicate 64 0) 1 w) := dGet_of (by simp) (dget_nil _ i)
theorem heads_nil (w : World) : Calls Tryz.prog 39 #[.pointer none] w fun e w' => e = .returned (.tuple #[.slice none 0 0, .iface 84 (.int .i64 1)]) ∧ w = w' := by
  have hq := neq_held 84 (.int .i64 1)
  go_enter Tryz.func39, Tryz.ntmps39
  go_wp2
  first | (go_ret; exact ⟨rfl, rfl⟩) | (refine bodyPost_ret (v := .tuple #[.slice none 0 0, .iface 84 (.int .i64 1)]) (by simp [results, Tryz.results39, go_sem]) rfl ⟨rfl, rfl⟩)
theorem room_nil' (w : World) (i : Int) : Calls Tryz.prog 69 #[.pointer none, .int .i64 i] w fun e w' => e = .returned (.tuple #[.int .i64 0, .iface 84 (.int .i64 1)]) ∧ w = w' := by
  have hq := neq_held 84 (.int .i64 1)
  go_enter Tryz.func69, Tryz.ntmps69
  go_wp2_with (first
    | (go_at_call 39; refine (heads_nil _).mono ?_; rintro e w' ⟨rfl, rfl⟩))
  first | (go_ret; exact ⟨rfl, rfl⟩) | (refine bodyPost_ret (v := .tuple #[.int .i64 0, .iface 84 (.int .i64 1)]) (by simp [results, Tryz.results69, go_sem]) rfl ⟨rfl, rfl⟩)
theorem dworst_nil (w : World) : Calls Tryz.prog 98 #[.pointer none] w fun e w' => e = .returned (.tuple #[.int .i64 0, .int .i64 0, .iface 84 (.int .i64 1)]) ∧ w = w' := by
  have hq := neq_held 84 (.int .i64 1)
  go_enter Tryz.func98, Tryz.ntmps98
  go_wp2_with (first
    | (go_at_call 39; refine (heads_nil _).mono ?_; rintro e w' ⟨rfl, rfl⟩))
  first | (go_ret; exact ⟨rfl, rfl⟩) | (refine bodyPost_ret (v := .tuple #[.int .i64 0, .int .i64 0, .iface 84 (.int .i64 1)]) (by simp [results, Tryz.results98, go_sem]) rfl ⟨rfl, rfl⟩)
theorem dslots_nil (w : World) (i : Int) : Calls Tryz.prog 99 #[.pointer none, .int .i64 i] w fun e w' => e = .returned (.tuple #[.slice none 0 0, .iface 84 (.int .i64 1)]) ∧ w = w' := by
  have hq := neq_held 84 (.int .i64 1)
  go_enter Tryz.func99, Tryz.ntmps99
  go_wp2
  first | (go_ret; exact ⟨rfl, rfl⟩) | (refine bodyPost_ret (v := .tuple #[.slice none 0 0, .iface 84 (.int .i64 1)]) (by simp [results, Tryz.results99, go_sem]) rfl ⟨rfl, rfl⟩)
end
/-- What kept behind allocations. -/
def Keeps (Q : World → Prop) : Prop := ∀ w1 w2, Q w1 → Below w1.heap.size w1 w2 → Q w2
theorem keeps_below (w : World) : Keeps (fun w' => Below w.heap.size w w') := fun _ _ h hb => h.trans (hb.mono h.size)
def TQ (n : Int) (Q : World → Prop) (e : Ending) (w' : World) : Prop := ∃ v, e = .returned v ∧ ErrV w' n v ∧ Q w'
def TQ2 (x : Value) (n : Int) (Q : World → Prop) (e : Ending) (w' : World) : Prop := ∃ v, e = .returned (.tuple #[x, v]) ∧ ErrV w' n v ∧ Q w'
def TQ3 (x y : Value) (n : Int) (Q : World → Prop) (e : Ending) (w' : World) : Prop := ∃ v, e = .returned (.tuple #[x, y, v]) ∧ ErrV w' n v ∧ Q w'
section
variable {w : World}
set_option maxRecDepth 100000 in
theorem dDrop_of {n : Int} {Q : World → Prop} {bp : Value} {i : Int} (hQ : Keeps Q) (h : Calls Tryz.prog 62 #[bp, .int .i64 i] w (TQ n Q)) : Calls Tryz.prog 30 #[bp, .int .i64 i] w (TQ n Q) := by
  have Hc := Lib.hid h
  clear h
  go_enter Tryz.func30, Tryz.ntmps30
  go_wp2_with (first
    | (go_at_call 62; refine Hc.out.mono ?_))
  rintro e w1 ⟨v, rfl, hE, hq⟩
  have Hi := Lib.hid (in_err ⟨#[100, 101, 112, 111, 116, 46, 68, 114, 111, 112]⟩ _ v w1 hE)
  clear hE Hc
  go_wp2_with (first | (go_at_call 35; refine Hi.out.mono ?_))
  rintro e w2 ⟨v2, rfl, hE2, hb2⟩
  have Hfin := Lib.hid (show TQ n Q (.returned (v2)) w2 from ⟨v2, rfl, hE2, hQ _ _ hq hb2⟩)
  clear hE2 hb2 Hi
  go_wp2
  go_ret
  exact Hfin.out
set_option maxRecDepth 100000 in
theorem dMove_of {n : Int} {Q : World → Prop} {bp : Value} {i : Int} {x : Value} (hQ : Keeps Q) (h : Calls Tryz.prog 36 #[bp, .int .i64 i] w (TQ2 x n Q)) : Calls Tryz.prog 11 #[bp, .int .i64 i] w (TQ2 x n Q) := by
  have Hc := Lib.hid h
  clear h
  go_enter Tryz.func11, Tryz.ntmps11
  go_wp2_with (first
    | (go_at_call 36; refine Hc.out.mono ?_))
  rintro e w1 ⟨v, rfl, hE, hq⟩
  have Hi := Lib.hid (in_err ⟨#[100, 101, 112, 111, 116, 46, 77, 111, 118, 101]⟩ _ v w1 hE)
  clear hE Hc
  go_wp2_with (first | (go_at_call 35; refine Hi.out.mono ?_))
  rintro e w2 ⟨v2, rfl, hE2, hb2⟩
  have Hfin := Lib.hid (show TQ2 x n Q (.returned (.tuple #[x, v2])) w2 from ⟨v2, rfl, hE2, hQ _ _ hq hb2⟩)
  clear hE2 hb2 Hi
  go_wp2
  refine bodyPost_ret (v := .tuple #[x, v2]) (by simp [results, Tryz.results11, go_sem]) rfl ?_
  exact Hfin.out
set_option maxRecDepth 100000 in
theorem dSlots_of {n : Int} {Q : World → Prop} {bp : Value} {i : Int} {x : Value} (hQ : Keeps Q) (h : Calls Tryz.prog 99 #[bp, .int .i64 i] w (TQ2 x n Q)) : Calls Tryz.prog 66 #[bp, .int .i64 i] w (TQ2 x n Q) := by
  have Hc := Lib.hid h
  clear h
  go_enter Tryz.func66, Tryz.ntmps66
  go_wp2_with (first
    | (go_at_call 99; refine Hc.out.mono ?_))
  rintro e w1 ⟨v, rfl, hE, hq⟩
  have Hi := Lib.hid (in_err ⟨#[100, 101, 112, 111, 116, 46, 83, 108, 111, 116, 115]⟩ _ v w1 hE)
  clear hE Hc
  go_wp2_with (first | (go_at_call 35; refine Hi.out.mono ?_))
  rintro e w2 ⟨v2, rfl, hE2, hb2⟩
  have Hfin := Lib.hid (show TQ2 x n Q (.returned (.tuple #[x, v2])) w2 from ⟨v2, rfl, hE2, hQ _ _ hq hb2⟩)
  clear hE2 hb2 Hi
  go_wp2
  refine bodyPost_ret (v := .tuple #[x, v2]) (by simp [results, Tryz.results66, go_sem]) rfl ?_
  exact Hfin.out
set_option maxRecDepth 100000 in
theorem dWorst_of {n : Int} {Q : World → Prop} {bp : Value} {x y : Value} (hQ : Keeps Q) (h : Calls Tryz.prog 98 #[bp] w (TQ3 x y n Q)) : Calls Tryz.prog 63 #[bp] w (TQ3 x y n Q) := by
  have Hc := Lib.hid h
  clear h
  go_enter Tryz.func63, Tryz.ntmps63
  go_wp2_with (first
    | (go_at_call 98; refine Hc.out.mono ?_))
  rintro e w1 ⟨v, rfl, hE, hq⟩
  have Hi := Lib.hid (in_err ⟨#[100, 101, 112, 111, 116, 46, 87, 111, 114, 115, 116]⟩ _ v w1 hE)
  clear hE Hc
  go_wp2_with (first | (go_at_call 35; refine Hi.out.mono ?_))
  rintro e w2 ⟨v2, rfl, hE2, hb2⟩
  have Hfin := Lib.hid (show TQ3 x y n Q (.returned (.tuple #[x, y, v2])) w2 from ⟨v2, rfl, hE2, hQ _ _ hq hb2⟩)
  clear hE2 hb2 Hi
  go_wp2
  refine bodyPost_ret (v := .tuple #[x, y, v2]) (by simp [results, Tryz.results63, go_sem]) rfl ?_
  exact Hfin.out
end
end Go.Proofs.YtjkkbceddbkejaaGreatDoor

/-
  Package depot: Put, drop, move, Count of a depot that is none, or whose get has an error.
-/
namespace Go.Proofs.YtjkkbceddbkejaaGreatDoor
open Go.RowKit Sh Go.Maps Go.Extern.Stop Go.Stop Go.Extern

section
variable {w : World}
set_option maxRecDepth 100000 in
theorem dput_nil (w : World) (p : List UInt8) (i : Int) : Calls Tryz.prog 34 #[.pointer none, pageV p, .int .i64 i] w (TQ2 (.int .i64 0) 1 (fun w' => Below w.heap.size w w')) := by
  obtain ⟨pv, Hpv⟩ : ∃ pv : List Value, Hid (pv = p.map cu8) := ⟨_, rfl⟩
  have hpV : pageV p = .agg pv.toArray := by rw [Hpv.out]; rfl
  rw [hpV]
  have hb1 : Below w.heap.size w (w.alloc (.cells pv.toArray 33)) := (Below.refl _ _).alloc (Nat.le_refl _) _
  have hq := neq_held 84 (.int .i64 1)
  clear hpV
  go_enter Tryz.func34, Tryz.ntmps34
  go_wp2_with (first
    | (go_at_call 69; refine (room_nil' _ _).mono ?_; rintro e w' ⟨rfl, rfl⟩))
  refine bodyPost_ret (v := .tuple #[.int .i64 0, .iface 84 (.int .i64 1)]) (by simp [results, Tryz.results34, go_sem]) rfl ?_
  exact ⟨_, rfl, .inr ⟨by decide, [], rfl⟩, hb1⟩
set_option maxRecDepth 100000 in
theorem dPut_of {n : Int} {Q : World → Prop} {bp x : Value} {p : List UInt8} (hp : p.length = 64) (hQ : Keeps Q)
    (h : Calls Tryz.prog 34 #[bp, pageV p, .int .i64 (-1)] (w.alloc (.cells (p.map cu8).toArray 33)) (TQ2 x n Q)) :
    Calls Tryz.prog 10 #[bp, pageV p] w (TQ2 x n Q) := by
  obtain ⟨pv, Hpv⟩ : ∃ pv : List Value, Hid (pv = p.map cu8) := ⟨_, rfl⟩
  have hpV : pageV p = .agg pv.toArray := by rw [Hpv.out]; rfl
  have hpi : Hid ((Tryz.prog.info? 33).map (·.size) = some pv.toArray.size) := by rw [Hpv.out]; exact pageInfo hp
  rw [hpV] at h ⊢
  rw [← Hpv.out] at h
  have hx1 : (w.alloc (.cells pv.toArray 33)).heap[w.heap.size]? = some (.cells pv.toArray 33 (0, 0)) := heap_alloc_new w _
  have Hc := Lib.hid h
  clear h hpV
  go_enter Tryz.func10, Tryz.ntmps10
  go_wp2_with (first
    | (refine wpList_load_row rfl 33 _ rfl w.heap.size rfl 33 pv.toArray (0, 0) _ hx1 Tryz.underlying33 rfl hpi.out ?_)
    | (go_at_call 34; refine Hc.out.mono ?_))
  rintro e w1 ⟨v, rfl, hE, hq⟩
  have Hi := Lib.hid (in_err ⟨#[100, 101, 112, 111, 116, 46, 80, 117, 116]⟩ _ v w1 hE)
  clear hE Hc hx1
  go_wp2_with (first | (go_at_call 35; refine Hi.out.mono ?_))
  rintro e w2 ⟨v2, rfl, hE2, hb2⟩
  have Hfin := Lib.hid (show TQ2 x n Q (.returned (.tuple #[x, v2])) w2 from ⟨v2, rfl, hE2, hQ _ _ hq hb2⟩)
  clear hE2 hb2 Hi
  go_wp2
  refine bodyPost_ret (v := .tuple #[x, v2]) (by simp [results, Tryz.results10, go_sem]) rfl ?_
  exact Hfin.out
set_option maxRecDepth 100000 in
theorem ddrop_err {bp : Value} {i n : Int} {q : List UInt8} (hql : q.length = 64) (n0 : n ≠ 0) (h : Calls Tryz.prog 38 #[bp, .int .i64 i] w (PageP q n w)) :
    Calls Tryz.prog 62 #[bp, .int .i64 i] w (TQ n (fun w' => Below w.heap.size w w')) := by
  have Hc := Lib.hid h
  obtain ⟨qv, Hqv⟩ : ∃ qv : List Value, Hid (qv = q.map cu8) := ⟨_, rfl⟩
  have hqV : pageV q = .agg qv.toArray := by rw [Hqv.out]; rfl
  have hqi : Hid ((Tryz.prog.info? 33).map (·.size) = some qv.toArray.size) := by rw [Hqv.out]; exact pageInfo hql
  have hqz : Hid (zeros64.size = qv.toArray.size) := by rw [Hqv.out]; exact pageZ hql
  have hq1 : Hid (qv.toArray.all (·.oneCell') = true) := by rw [Hqv.out]; exact bytes_one _
  clear h
  go_enter Tryz.func62, Tryz.ntmps62
  go_wp2_with (first | (go_at_call 38; refine Hc.out.mono ?_))
  rintro e w2 ⟨v2, rfl, hE2, hb2⟩
  rw [hqV]
  clear Hc hqV
  go_upto_region 2 with (first
    | (refine wpList_alloc_arr rfl 33 rfl _ alloc64 ?_)
    | (refine wpList_store_new rfl 33 _ _ rfl w2.heap.size rfl qv.toArray rfl rfl 33 _ hqi.out hqz.out hq1.out ?_))
  have hb3 : Below w2.heap.size w2 (w2.alloc (.cells qv.toArray 33)) := (Below.refl _ _).alloc (Nat.le_refl _) _
  have hE3 := hE2.below hb3
  have hb23 := hb2.trans (hb3.mono hb2.size)
  generalize w2.alloc (.cells qv.toArray 33) = w3 at hb3 hE3 hb23 ⊢
  obtain ⟨t, z, rfl⟩ := hE3.held n0
  have hq := neq_held t z
  have Hfin := Lib.hid (show TQ n (fun w' => Below w.heap.size w w') (.returned (.iface t z)) w3 from ⟨_, rfl, hE3, hb23⟩)
  clear hE3 hb23 hb3 hE2 hb2
  go_wp2
  go_ret
  exact Hfin.out
set_option maxRecDepth 100000 in
theorem dmove_err {bp : Value} {i n : Int} {q : List UInt8} (hql : q.length = 64) (n0 : n ≠ 0) (h : Calls Tryz.prog 38 #[bp, .int .i64 i] w (PageP q n w)) :
    Calls Tryz.prog 36 #[bp, .int .i64 i] w (TQ2 (.int .i64 0) n (fun w' => Below w.heap.size w w')) := by
  have Hc := Lib.hid h
  obtain ⟨qv, Hqv⟩ : ∃ qv : List Value, Hid (qv = q.map cu8) := ⟨_, rfl⟩
  have hqV : pageV q = .agg qv.toArray := by rw [Hqv.out]; rfl
  have hqi : Hid ((Tryz.prog.info? 33).map (·.size) = some qv.toArray.size) := by rw [Hqv.out]; exact pageInfo hql
  have hqz : Hid (zeros64.size = qv.toArray.size) := by rw [Hqv.out]; exact pageZ hql
  have hq1 : Hid (qv.toArray.all (·.oneCell') = true) := by rw [Hqv.out]; exact bytes_one _
  clear h
  go_enter Tryz.func36, Tryz.ntmps36
  go_wp2_with (first | (go_at_call 38; refine Hc.out.mono ?_))
  rintro e w2 ⟨v2, rfl, hE2, hb2⟩
  rw [hqV]
  clear Hc hqV
  go_upto_region 2 with (first
    | (refine wpList_alloc_arr rfl 33 rfl _ alloc64 ?_)
    | (refine wpList_store_new rfl 33 _ _ rfl w2.heap.size rfl qv.toArray rfl rfl 33 _ hqi.out hqz.out hq1.out ?_))
  have hb3 : Below w2.heap.size w2 (w2.alloc (.cells qv.toArray 33)) := (Below.refl _ _).alloc (Nat.le_refl _) _
  have hE3 := hE2.below hb3
  have hb23 := hb2.trans (hb3.mono hb2.size)
  generalize w2.alloc (.cells qv.toArray 33) = w3 at hb3 hE3 hb23 ⊢
  obtain ⟨t, z, rfl⟩ := hE3.held n0
  have hq := neq_held t z
  have Hfin := Lib.hid (show TQ2 (.int .i64 0) n (fun w' => Below w.heap.size w w') (.returned (.tuple #[.int .i64 0, .iface t z])) w3 from ⟨_, rfl, hE3, hb23⟩)
  clear hE3 hb23 hb3 hE2 hb2
  go_wp2
  refine bodyPost_ret (v := .tuple #[.int .i64 0, .iface t z]) (by simp [results, Tryz.results36, go_sem]) rfl ?_
  exact Hfin.out
def TQ4 (n : Int) (w : World) (e : Ending) (w' : World) : Prop := ∃ v, e = .returned (.tuple #[.int .i64 0, .int .i64 0, .int .i64 0, v]) ∧ ErrV w' n v ∧ Below w.heap.size w w'
set_option maxRecDepth 100000 in
theorem dCount_nil (w : World) : Calls Tryz.prog 14 #[.pointer none] w (TQ4 1 w) := by
  have hq := neq_held 84 (.int .i64 1)
  have Hi := Lib.hid (in_err ⟨#[100, 101, 112, 111, 116, 46, 67, 111, 117, 110, 116]⟩ 1 (.iface 84 (.int .i64 1)) w (.inr ⟨by decide, [], rfl⟩))
  go_enter Tryz.func14, Tryz.ntmps14
  go_wp2_with (first
    | (go_at_call 39; refine (heads_nil _).mono ?_; rintro e w' ⟨rfl, rfl⟩)
    | (go_at_call 35; refine Hi.out.mono ?_))
  rintro e w2 ⟨v2, rfl, hE2, hb2⟩
  have Hfin := Lib.hid (show TQ4 1 w (.returned (.tuple #[.int .i64 0, .int .i64 0, .int .i64 0, v2])) w2 from ⟨v2, rfl, hE2, hb2⟩)
  clear hE2 hb2 Hi
  go_wp2
  refine bodyPost_ret (v := .tuple #[.int .i64 0, .int .i64 0, .int .i64 0, v2]) (by simp [results, Tryz.results14, go_sem]) rfl ?_
  exact Hfin.out
/-! Of a depot that is none. -/
theorem dPut_nil (w : World) (p : List UInt8) (hp : p.length = 64) : Calls Tryz.prog 10 #[.pointer none, pageV p] w (TQ2 (.int .i64 0) 1 (fun w' => Below w.heap.size w w')) := by
  have hb : Below w.heap.size w (w.alloc (.cells (p.map cu8).toArray 33)) := (Below.refl _ _).alloc (Nat.le_refl _) _
  exact dPut_of hp (keeps_below w) ((dput_nil _ p (-1)).mono fun e w' ⟨v, h1, h2, h3⟩ => ⟨v, h1, h2, hb.trans (h3.mono hb.size)⟩)
theorem dDrop_nil (w : World) (i : Int) : Calls Tryz.prog 30 #[.pointer none, .int .i64 i] w (TQ 1 (fun w' => Below w.heap.size w w')) := dDrop_of (keeps_below w) (ddrop_err (by simp) (by decide) (dget_nil w i))
theorem dMove_nil (w : World) (i : Int) : Calls Tryz.prog 11 #[.pointer none, .int .i64 i] w (TQ2 (.int .i64 0) 1 (fun w' => Below w.heap.size w w')) := dMove_of (keeps_below w) (dmove_err (by simp) (by decide) (dget_nil w i))
theorem dSlots_nil (w : World) (i : Int) : Calls Tryz.prog 66 #[.pointer none, .int .i64 i] w (TQ2 (.slice none 0 0) 1 (fun w' => Below w.heap.size w w')) :=
  dSlots_of (keeps_below w) ((dslots_nil w i).mono fun e w' ⟨h1, h2⟩ => ⟨_, h1, .inr ⟨by decide, [], rfl⟩, by rw [← h2]; exact Below.refl _ _⟩)
theorem dWorst_nil (w : World) : Calls Tryz.prog 63 #[.pointer none] w (TQ3 (.int .i64 0) (.int .i64 0) 1 (fun w' => Below w.heap.size w w')) :=
  dWorst_of (keeps_below w) ((dworst_nil w).mono fun e w' ⟨h1, h2⟩ => ⟨_, h1, .inr ⟨by decide, [], rfl⟩, by rw [← h2]; exact Below.refl _ _⟩)
end
end Go.Proofs.YtjkkbceddbkejaaGreatDoor
