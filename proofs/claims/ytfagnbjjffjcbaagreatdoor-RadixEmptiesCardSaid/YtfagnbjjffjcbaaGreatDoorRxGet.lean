/-
  Package radix: get, Get, Nodes, New; a forest that is none.
-/
import Derived.Test.YtfagnbjjffjcbaaGreatDoorRxLeaf
import Derived.Test.YtfagnbjjffjcbaaGreatDoorRxIndex
import Derived.Test.YtfagnbjjffjcbaaGreatDoorRxBook
set_option linter.unusedSimpArgs false
set_option linter.unusedVariables false
namespace Go.Proofs.YtfagnbjjffjcbaaGreatDoor
open Go.RowKit Sh Go.Maps Go.Extern.Stop Go.Stop Go.Extern

/-- A number and an error. -/
def GetP (z n : Int) (w : World) (e : Ending) (w' : World) : Prop := ∃ v, e = .returned (.tuple #[.int .i64 z, v]) ∧ ErrV w' n v ∧ Below w.heap.size w w'
section
variable {w : World} {x g first n : Nat}
set_option maxRecDepth 100000 in
set_option maxHeartbeats 8000000 in
theorem get1_any (h : FoAt x g first n w) (hf : first ≤ 100000) (hn : n ≤ 100000) {pg : Nat → List UInt8} {v : Nat → Nat} (hR : Reads w g first n pg) (hr : Rep pg first n v) (hlen : ∀ i, i ≤ n → (pg (first + i)).length = 64) (lun block : Nat) (h1 : lun < 4) (h2 : block < 256) :
    Calls Tryz.prog 45 #[.pointer (some ⟨x, 0, none⟩), .int .i64 lun, .int .i64 block] w (GetP (v (lun * 256 + block) : Nat) 0 w) := by
  obtain ⟨q, hq⟩ : ∃ q, pg first = q := ⟨_, rfl⟩
  have hql : q.length = 64 := by rw [← hq]; exact hr.rl
  have hrt := roots_any h hf hn hR hr.rl hr.le
  rw [hq] at hrt
  obtain ⟨J, hJ⟩ : ∃ J, lun * 16 + block / 16 = J := ⟨_, rfl⟩
  have hJ64 : J < 64 := by omega
  obtain ⟨I, hI⟩ : ∃ I, block % 16 = I := ⟨_, rfl⟩
  have hI16 : I < 16 := by omega
  have hm : ((block : Int)).tmod 16 = (I : Int) := by rw [Int.tmod_eq_emod_of_nonneg (by omega)]; omega
  have hcn := hr.le J hJ64
  have hlfe := hr.leaf hJ64
  rw [hq] at hcn hlfe
  have hlf := fun W (hW : Below w.heap.size w W) => leaf_any (h.below hW) hf hn (hR.below hW) (at8 q J) hcn (hlen _ hcn)
  rw [hlfe] at hlf
  have hval := sixteen_at v (lun * 256 + block)
  rw [show (lun * 256 + block) / 16 = J by omega, show (lun * 256 + block) % 16 = I by omega] at hval
  have hroot := fun W => rroot_any (w := W) lun block h1 h2
  rw [hJ] at hroot
  obtain ⟨qv, Hqv⟩ : ∃ qv : List Value, Hid (qv = q.map cu8) := ⟨_, rfl⟩
  have hqV : pageV q = .agg qv.toArray := by rw [Hqv.out]; rfl
  obtain ⟨lv, Hlv⟩ : ∃ lv : List Value, Hid (lv = cellsL (sixteen v J)) := ⟨_, rfl⟩
  have hlV : leafV (sixteen v J) = .agg lv.toArray := by rw [Hlv.out]; rfl
  have hqr : Hid ((Tryz.prog.info? 86).map (·.size) = some qv.toArray.size) := by rw [Hqv.out]; exact rootsInfo hql
  have hqz : Hid (zeros64.size = qv.toArray.size) := by rw [Hqv.out]; exact pageZ hql
  have hq1 : Hid (qv.toArray.all (·.oneCell') = true) := by rw [Hqv.out]; exact bytes_one _
  have hli : Hid ((Tryz.prog.info? 126).map (·.size) = some lv.toArray.size) := by rw [Hlv.out]; exact leafInfo (sixteen_len v J)
  obtain ⟨zn, Hzn⟩ : ∃ zn : Array Value, Hid (zn = (cellsL noneL).toArray) := ⟨_, rfl⟩
  have hal : ∀ w : World, (Instr.alloc 126 true (.tuple #[])).run Tryz.prog w = .ok (.pointer (some ⟨w.heap.size, 0, none⟩)) (w.alloc (.cells zn 126)) := by rw [Hzn.out]; exact allocLeaf
  have hlz : Hid (zn.size = lv.toArray.size) := by
    have e : lv.toArray.size = 16 := by rw [List.size_toArray, Hlv.out, cellsL_len, sixteen_len]
    rw [e, Hzn.out]; exact (rfl : (cellsL noneL).toArray.size = 16)
  have hl1 : Hid (lv.toArray.all (·.oneCell') = true) := by rw [Hlv.out]; exact cellsL_one _
  have halr : ∀ w : World, (Instr.alloc 86 true (.tuple #[])).run Tryz.prog w = .ok (.pointer (some ⟨w.heap.size, 0, none⟩)) (w.alloc (.cells zeros64 86)) := allocRoots
  have Hrt : Hid (Calls Tryz.prog 41 #[.pointer (some ⟨x, 0, none⟩)] w (fun e w' => e = .returned (.tuple #[.agg qv.toArray, .nilIface]) ∧ Below w.heap.size w w')) := by
    have : Calls Tryz.prog 41 #[.pointer (some ⟨x, 0, none⟩)] w (fun e w' => e = .returned (.tuple #[.agg qv.toArray, .nilIface]) ∧ Below w.heap.size w w') := hrt.mono fun e w' ⟨h1, h2⟩ => ⟨by rw [h1, hqV], h2⟩
    exact this
  obtain ⟨C, hC⟩ : ∃ C : Nat, (at8 q J).toNat = C := ⟨_, rfl⟩
  rw [hC] at hlf
  have HlfW : Hid (∀ W, Below w.heap.size w W → Calls Tryz.prog 67 #[.pointer (some ⟨x, 0, none⟩), .int .u8 (C : Int)] W (fun e w' => e = .returned (.tuple #[.agg lv.toArray, .nilIface]) ∧ Below W.heap.size W w')) := by
    have : ∀ W, Below w.heap.size w W → Calls Tryz.prog 67 #[.pointer (some ⟨x, 0, none⟩), .int .u8 (C : Int)] W (fun e w' => e = .returned (.tuple #[.agg lv.toArray, .nilIface]) ∧ Below W.heap.size W w') := fun W hW => (hlf W hW).mono fun e w' ⟨h1, h2⟩ => ⟨by rw [h1, hlV], h2⟩
    exact this
  have Hroot := Lib.hid hroot
  have Hcell : Hid (qv[J]? = some (.int .u8 (C : Int))) := by
    have : qv[J]? = some (.int .u8 (C : Int)) := by rw [Hqv.out, List.getElem?_map, at8_take_list (by omega), ← hC, ← cu8N]; rfl
    exact this
  obtain ⟨Z, hZ⟩ : ∃ Z, v (lun * 256 + block) = Z := ⟨_, rfl⟩
  rw [hZ] at hval ⊢
  have Hval : Hid (lv[I]? = some (.int .i64 (Z : Int))) := by
    have : lv[I]? = some (.int .i64 (Z : Int)) := by rw [Hlv.out, cellsL, List.getElem?_map, hval]; rfl
    exact this
  have k1 : (0 : Int) ≤ (lun : Int) := by omega
  have k2 : (lun : Int) < 4 := by omega
  have k3 : (0 : Int) ≤ (block : Int) := by omega
  have k4 : (block : Int) < 256 := by omega
  clear hlf hroot hlfe hrt hq hqV hlV hC hZ hval hR hr hlen h hJ hI hcn
  go_enter Tryz.func45, Tryz.ntmps45
  go_wp2_with (first
    | (go_at_call 65; refine (has_yes ⟨x, 0, none⟩ lun block k1 k2 k3 k4).mono ?_; rintro e w' ⟨rfl, rfl⟩)
    | (go_at_call 41; refine Hrt.out.mono ?_))
  rintro e w2 ⟨rfl, hb2⟩
  clear Hrt
  go_upto_region 4 with (first
    | (refine wpList_alloc_arr rfl 86 rfl _ halr ?_)
    | (refine wpList_store_new rfl 86 _ _ rfl w2.heap.size rfl qv.toArray rfl rfl 86 _ hqr.out hqz.out hq1.out ?_))
  have hb3 : Below w2.heap.size w2 (w2.alloc (.cells qv.toArray 86)) := (Below.refl _ _).alloc (Nat.le_refl _) _
  have hz3 : (w2.alloc (.cells qv.toArray 86)).heap[w2.heap.size]? = some (.cells qv.toArray 86 (0, 0)) := heap_alloc_new w2 _
  have hbw3 := hb2.trans (hb3.mono hb2.size)
  generalize w2.alloc (.cells qv.toArray 86) = w3 at hb3 hz3 hbw3 ⊢
  obtain ⟨z, hz⟩ : ∃ z, w2.heap.size = z := ⟨_, rfl⟩
  rw [hz] at hz3 ⊢
  have cz : w3.cell? ⟨z, J, none⟩ = some (.int .u8 (C : Int)) := by rw [cell_of_row w3 z J _ _ _ hz3, List.getElem?_toArray]; exact Hcell.out
  have HB3 := Lib.hid hbw3
  clear hz hb3 hb2 hz3 hbw3 halr
  go_wp2_with (first
    | (go_at_call 66; refine (Hroot.out _).mono ?_; rintro e w' ⟨rfl, rfl⟩)
    | (go_at_call 67; refine (HlfW.out _ HB3.out).mono ?_))
  rintro e w4 ⟨rfl, hb4⟩
  have hbw4 := HB3.out.trans (hb4.mono HB3.out.size)
  clear HlfW Hroot cz hb4 HB3
  go_upto_region 7 with (first
    | (refine wpList_alloc_arr rfl 126 rfl _ hal ?_)
    | (refine wpList_store_new rfl 126 _ _ rfl w4.heap.size rfl lv.toArray rfl rfl 126 _ hli.out hlz.out hl1.out ?_))
  have hb5 : Below w4.heap.size w4 (w4.alloc (.cells lv.toArray 126)) := (Below.refl _ _).alloc (Nat.le_refl _) _
  have hz5 : (w4.alloc (.cells lv.toArray 126)).heap[w4.heap.size]? = some (.cells lv.toArray 126 (0, 0)) := heap_alloc_new w4 _
  have hbw5 := hbw4.trans (hb5.mono hbw4.size)
  generalize w4.alloc (.cells lv.toArray 126) = w5 at hb5 hz5 hbw5 ⊢
  obtain ⟨y, hy⟩ : ∃ y, w4.heap.size = y := ⟨_, rfl⟩
  rw [hy] at hz5 ⊢
  have cy : w5.cell? ⟨y, I, none⟩ = some (.int .i64 (Z : Int)) := by rw [cell_of_row w5 y I _ _ _ hz5, List.getElem?_toArray]; exact Hval.out
  have Hfin := Lib.hid (show GetP (Z : Int) 0 w (.returned (.tuple #[.int .i64 (Z : Int), .nilIface])) w5 from ⟨_, rfl, ErrV.nil, hbw5⟩)
  have hI' : (I : Int) < 16 := by omega
  clear hy hb5 hz5 hbw5 hbw4 hal
  go_wp2
  refine bodyPost_ret (v := .tuple #[.int .i64 (Z : Int), .nilIface]) (by simp [results, Tryz.results45, go_sem]) rfl Hfin.out
set_option maxRecDepth 100000 in
/-- .. of what there isn't. -/
theorem get1_bad (p : Value) (lun block : Int) (hh : Calls Tryz.prog 65 #[p, .int .i64 lun, .int .i64 block] w (SameQ (.bool false) w)) :
    Calls Tryz.prog 45 #[p, .int .i64 lun, .int .i64 block] w (GetP 0 1 w) := by
  have Hh := Lib.hid hh
  have Hfin := Lib.hid (show GetP 0 1 w (.returned (.tuple #[.int .i64 0, .iface 85 (.int .i64 1)])) w from ⟨_, rfl, .inr ⟨by decide, [], rfl⟩, Below.refl _ _⟩)
  clear hh
  go_enter Tryz.func45, Tryz.ntmps45
  go_wp2_with (first
    | (go_at_call 65; refine Hh.out.mono ?_; rintro e w' ⟨rfl, rfl⟩))
  refine bodyPost_ret (v := .tuple #[.int .i64 0, .iface 85 (.int .i64 1)]) (by simp [results, Tryz.results45, go_sem]) rfl Hfin.out
set_option maxRecDepth 100000 in
theorem Get_of {p : Value} {lun block z n : Int} (h : Calls Tryz.prog 45 #[p, .int .i64 lun, .int .i64 block] w (GetP z n w)) :
    Calls Tryz.prog 21 #[p, .int .i64 lun, .int .i64 block] w (GetP z n w) := by
  have Hc := Lib.hid h
  clear h
  go_enter Tryz.func21, Tryz.ntmps21
  go_wp2_with (first
    | (go_at_call 45; refine Hc.out.mono ?_))
  rintro e w1 ⟨v, rfl, hE, hb⟩
  have Hi := Lib.hid (in_err ⟨#[114, 97, 100, 105, 120, 46, 71, 101, 116]⟩ _ v w1 hE)
  have HB := Lib.hid hb
  clear hE Hc hb
  go_wp2_with (first | (go_at_call 40; refine Hi.out.mono ?_))
  rintro e w2 ⟨v2, rfl, hE2, hb2⟩
  have Hfin := Lib.hid (show GetP z n w (.returned (.tuple #[.int .i64 z, v2])) w2 from ⟨v2, rfl, hE2, HB.out.trans (hb2.mono HB.out.size)⟩)
  clear hE2 hb2 Hi HB
  go_wp2
  refine bodyPost_ret (v := .tuple #[.int .i64 z, v2]) (by simp [results, Tryz.results21, go_sem]) rfl Hfin.out
set_option maxRecDepth 100000 in
set_option maxHeartbeats 4000000 in
theorem Nodes_any (h : FoAt x g first n w) (hf : first ≤ 100000) (hn : n ≤ 100000) {pg : Nat → List UInt8} {v : Nat → Nat} (hR : Reads w g first n pg) (hr : Rep pg first n v) :
    Calls Tryz.prog 16 #[.pointer (some ⟨x, 0, none⟩)] w (GetP (takenO v 4 : Nat) 0 w) := by
  obtain ⟨q, hq⟩ : ∃ q, pg first = q := ⟨_, rfl⟩
  have hql : q.length = 64 := by rw [← hq]; exact hr.rl
  have hrt := roots_any h hf hn hR hr.rl hr.le
  have htk := hr.taken
  rw [hq] at hrt htk
  obtain ⟨qv, Hqv⟩ : ∃ qv : List Value, Hid (qv = q.map cu8) := ⟨_, rfl⟩
  have hqV : pageV q = .agg qv.toArray := by rw [Hqv.out]; rfl
  have hqr : Hid ((Tryz.prog.info? 86).map (·.size) = some qv.toArray.size) := by rw [Hqv.out]; exact rootsInfo hql
  have hqz : Hid (zeros64.size = qv.toArray.size) := by rw [Hqv.out]; exact pageZ hql
  have hq1 : Hid (qv.toArray.all (·.oneCell') = true) := by rw [Hqv.out]; exact bytes_one _
  have halr : ∀ w : World, (Instr.alloc 86 true (.tuple #[])).run Tryz.prog w = .ok (.pointer (some ⟨w.heap.size, 0, none⟩)) (w.alloc (.cells zeros64 86)) := allocRoots
  have Hrt : Hid (Calls Tryz.prog 41 #[.pointer (some ⟨x, 0, none⟩)] w (fun e w' => e = .returned (.tuple #[.agg qv.toArray, .nilIface]) ∧ Below w.heap.size w w')) := by
    have : Calls Tryz.prog 41 #[.pointer (some ⟨x, 0, none⟩)] w (fun e w' => e = .returned (.tuple #[.agg qv.toArray, .nilIface]) ∧ Below w.heap.size w w') := hrt.mono fun e w' ⟨h1, h2⟩ => ⟨by rw [h1, hqV], h2⟩
    exact this
  have htn := fun W => taken_any (w := W) q hql
  rw [hqV] at htn
  obtain ⟨K, hK⟩ : ∃ K, takenO v 4 = K := ⟨_, rfl⟩
  rw [htk, hK] at htn
  rw [hK]
  have Htn := Lib.hid htn
  clear hrt htn hq hqV hK htk hR hr h
  go_enter Tryz.func16, Tryz.ntmps16
  go_wp2_with (first
    | (go_at_call 41; refine Hrt.out.mono ?_))
  rintro e w2 ⟨rfl, hb2⟩
  clear Hrt
  go_upto_region 4 with (first
    | (refine wpList_alloc_arr rfl 86 rfl _ halr ?_)
    | (refine wpList_store_new rfl 86 _ _ rfl w2.heap.size rfl qv.toArray rfl rfl 86 _ hqr.out hqz.out hq1.out ?_))
  have hb3 : Below w2.heap.size w2 (w2.alloc (.cells qv.toArray 86)) := (Below.refl _ _).alloc (Nat.le_refl _) _
  have hz3 : (w2.alloc (.cells qv.toArray 86)).heap[w2.heap.size]? = some (.cells qv.toArray 86 (0, 0)) := heap_alloc_new w2 _
  have hbw3 := hb2.trans (hb3.mono hb2.size)
  generalize w2.alloc (.cells qv.toArray 86) = w3 at hb3 hz3 hbw3 ⊢
  obtain ⟨z, hz⟩ : ∃ z, w2.heap.size = z := ⟨_, rfl⟩
  rw [hz] at hz3 ⊢
  have HB3 := Lib.hid hbw3
  clear hz hb3 hb2 hbw3 halr
  go_wp2_with (first
    | (refine wpList_load_row rfl 86 _ rfl z rfl 86 qv.toArray (0, 0) _ hz3 Tryz.underlying86 rfl hqr.out ?_)
    | (go_at_call 42; refine (Htn.out _).mono ?_))
  rintro e w4 ⟨rfl, hb4⟩
  have hbw4 := HB3.out.trans (hb4.mono HB3.out.size)
  have Hi := Lib.hid (in_err ⟨#[114, 97, 100, 105, 120, 46, 78, 111, 100, 101, 115]⟩ 0 .nilIface w4 ErrV.nil)
  have HB4 := Lib.hid hbw4
  clear hb4 hbw4 HB3 Htn hz3
  go_wp2_with (first | (go_at_call 40; refine Hi.out.mono ?_))
  rintro e w5 ⟨v2, rfl, hE2, hb5⟩
  have Hfin := Lib.hid (show GetP (K : Int) 0 w (.returned (.tuple #[.int .i64 (K : Int), v2])) w5 from ⟨v2, rfl, hE2, HB4.out.trans (hb5.mono HB4.out.size)⟩)
  clear hE2 hb5 Hi HB4
  go_wp2
  refine bodyPost_ret (v := .tuple #[.int .i64 (K : Int), v2]) (by simp [results, Tryz.results16, go_sem]) rfl Hfin.out
set_option maxRecDepth 100000 in
theorem Nodes_nil : Calls Tryz.prog 16 #[.pointer none] w (GetP 0 1 w) := by
  have Hi := Lib.hid (in_err ⟨#[114, 97, 100, 105, 120, 46, 78, 111, 100, 101, 115]⟩ 1 (.iface 85 (.int .i64 1)) w (.inr ⟨by decide, [], rfl⟩))
  go_enter Tryz.func16, Tryz.ntmps16
  go_wp2_with (first | (go_at_call 40; refine Hi.out.mono ?_))
  rintro e w5 ⟨v2, rfl, hE2, hb5⟩
  have Hfin := Lib.hid (show GetP 0 1 w (.returned (.tuple #[.int .i64 0, v2])) w5 from ⟨v2, rfl, hE2, hb5⟩)
  clear hE2 hb5 Hi
  go_wp2
  refine bodyPost_ret (v := .tuple #[.int .i64 0, v2]) (by simp [results, Tryz.results16, go_sem]) rfl Hfin.out
end
end Go.Proofs.YtfagnbjjffjcbaaGreatDoor
