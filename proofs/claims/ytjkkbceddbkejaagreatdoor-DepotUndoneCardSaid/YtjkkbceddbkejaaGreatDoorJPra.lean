import Derived.Test.YtjkkbceddbkejaaGreatDoorJRg
import Derived.Test.YtjkkbceddbkejaaGreatDoorJDk
import Derived.Test.YtjkkbceddbkejaaGreatDoorJSha
set_option linter.unusedSimpArgs false
set_option linter.unusedVariables false
/-
  The program's ring: its small functions on a record's pages.
-/
namespace Go.Proofs.YtjkkbceddbkejaaGreatDoor
open Go.RowKit Sh

theorem ret_i64 {a b : Int} (h : a = b) : Ending.returned (.int .i64 a) = .returned (.int .i64 b) := by rw [h]
/-- The pages of a record in a block of their own. -/
structure RecAt (b : Nat) (pgs : List (List UInt8)) (w : World) : Prop where
  at_ : w.heap[b]? = some (.cells (pgs.flatten.map cu8).toArray 33 (0, 0))
  len : ∀ p ∈ pgs, p.length = 64
theorem flat_len : ∀ {pgs : List (List UInt8)}, (∀ p ∈ pgs, p.length = 64) → pgs.flatten.length = pgs.length * 64
  | [], _ => rfl
  | p :: ps, h => by
    rw [List.flatten_cons, List.length_append, h p (by simp), flat_len (fun q hq => h q (by simp [hq])), List.length_cons]; omega
theorem flat_at : ∀ {pgs : List (List UInt8)} {i j : Nat} {p : List UInt8}, (∀ p ∈ pgs, p.length = 64) → pgs[i]? = some p → j < 64 → pgs.flatten[i * 64 + j]? = p[j]?
  | [], _, _, _, _, h, _ => by simp at h
  | q :: ps, 0, j, p, hl, h, hj => by
    obtain rfl : q = p := by simpa using h
    rw [List.flatten_cons, Nat.zero_mul, Nat.zero_add, List.getElem?_append_left (by rw [hl q (by simp)]; exact hj)]
  | q :: ps, i + 1, j, p, hl, h, hj => by
    rw [List.flatten_cons, List.getElem?_append_right (by rw [hl q (by simp)]; omega), hl q (by simp), show (i + 1) * 64 + j - 64 = i * 64 + j from by omega]
    exact flat_at (fun x hx => hl x (by simp [hx])) (by simpa using h) hj
section
variable {b : Nat} {pgs : List (List UInt8)} {w w' : World}
theorem RecAt.lt (h : RecAt b pgs w) : b < w.heap.size := (Array.getElem?_eq_some_iff.1 h.at_).1
theorem RecAt.of_block (h : RecAt b pgs w) (e : w'.heap[b]? = w.heap[b]?) : RecAt b pgs w' := ⟨e.trans h.at_, h.len⟩
theorem RecAt.below (h : RecAt b pgs w) (hb : Below w.heap.size w w') : RecAt b pgs w' := h.of_block (hb.block b h.lt)
theorem RecAt.cell (h : RecAt b pgs w) {i j : Nat} {p : List UInt8} (hi : pgs[i]? = some p) (hj : j < 64) : w.cell? ⟨b, i * 64 + j, none⟩ = some (cu8 (at8 p j)) := by
  have hp : p.length = 64 := h.len p (List.mem_of_getElem? hi)
  rw [cell_of_row w b _ _ _ _ h.at_, List.getElem?_toArray, List.getElem?_map, flat_at h.len hi hj]
  simp [at8, List.getD_eq_getElem?_getD, List.getElem?_eq_getElem (show j < p.length by omega)]
theorem RecAt.thawed (h : RecAt b pgs w) (j : Nat) : w.frozen? ⟨b, j, none⟩ = false := by simp [World.frozen?, h.at_]

theorem plists_any (k : Nat) (hk : k ≤ 4096) (w : World) : Calls Tryz.prog 152 #[.int .i64 k] w fun e w' => e = .returned (.int .i64 ((k + 15) / 16 : Nat)) ∧ w = w' := by
  go_enter Tryz.func152, Tryz.ntmps152
  go_wp2
  go_ret
  exact ⟨ret_i64 (by omega), rfl⟩
theorem psize_any (k : Nat) (hk : k ≤ 4096) (w : World) : Calls Tryz.prog 141 #[.int .i64 k] w fun e w' => e = .returned (.int .i64 (takes k : Nat)) ∧ w = w' := by
  obtain ⟨T, hT⟩ : ∃ T, takes k = T := ⟨_, rfl⟩
  have hT2 : 1 + (k + 15) / 16 + k = T := hT
  rw [hT]
  go_enter Tryz.func141, Tryz.ntmps141
  go_wp2_with (go_at_call 152; refine (plists_any k hk _).mono ?_; rintro e w' ⟨rfl, rfl⟩)
  go_ret
  exact ⟨ret_i64 (by omega), rfl⟩
theorem pcount_any {p : List UInt8} {ps : List (List UInt8)} (h : RecAt b (p :: ps) w) (L cap : Nat) (hL : 0 < L) :
    Calls Tryz.prog 145 #[.slice (some ⟨b, 0, none⟩) L cap] w fun e w' => e = .returned (.int .i64 ((at8 p 9).toNat : Nat)) ∧ w = w' := by
  have c : w.cell? ⟨b, 9, none⟩ = some (.int .u8 ((at8 p 9).toNat : Nat)) := h.cell (i := 0) (j := 9) rfl (by omega)
  have hb := (at8 p 9).toNat_lt
  go_enter Tryz.func145, Tryz.ntmps145
  go_wp2
  go_ret
  exact ⟨rfl, rfl⟩

/-- A number in n bytes, the lowest first. -/
def leN (n x : Nat) : List UInt8 := (List.range n).map fun i => UInt8.ofNat (x / 2 ^ (8 * i))
theorem leN_length (n x : Nat) : (leN n x).length = n := by simp [leN]
theorem leN_succ (n x : Nat) : leN (n + 1) x = leN n x ++ [UInt8.ofNat (x / 2 ^ (8 * n))] := by simp [leN, List.range_succ]
theorem le8_eq (x : Nat) : le8 x = leN 8 x := rfl
theorem le4_eq (x : Nat) : le4 x = leN 4 x := by simp [le4, leN, List.range_succ]
theorem splice_nil (cur : List Value) (o : Nat) (_h : o ≤ cur.length) : splice cur o [] = cur := by simp [splice]
theorem splice_snoc (cur cs : List Value) (o : Nat) (v : Value) (h : o + cs.length < cur.length) : (splice cur o cs).set (o + cs.length) v = splice cur o (cs ++ [v]) := by
  unfold splice
  have h1 : (cur.take o).length = o := by rw [List.length_take]; omega
  rw [List.append_assoc, List.set_append_right _ _ (by rw [h1]; omega), h1, List.set_append_right _ _ (by omega), show o + cs.length - o - cs.length = 0 from by omega]
  rw [List.drop_eq_getElem_cons (show o + cs.length < cur.length from h), List.set_cons_zero, List.length_append, List.length_singleton, ← Nat.add_assoc]
  simp
theorem setCell_row {w : World} {g : Nat} {cs : List Value} {t : TypeId} (h : w.heap[g]? = some (.cells cs.toArray t (0, 0))) (j : Nat) (v : Value) :
    (w.setCell ⟨g, j, none⟩ v).heap[g]? = some (.cells (cs.set j v).toArray t (0, 0)) := by
  simp [World.setCell, Array.getElem?_modify, h]
theorem thawed_row {w : World} {g : Nat} {cs : Array Value} {t : TypeId} (h : w.heap[g]? = some (.cells cs t (0, 0))) (j : Nat) : w.frozen? ⟨g, j, none⟩ = false := by simp [World.frozen?, h]
theorem byteU (m k : Nat) : IntKind.u8.wrap ((m / 2 ^ k : Nat) : Int) = bz (UInt8.ofNat (m / 2 ^ k)) := by
  rw [IntKind.wrap_u8', bz_eq, UInt8.toNat_ofNat']; omega

def PutPost (g : Nat) (cs : List Value) (t : TypeId) (w : World) (e : Ending) (w' : World) : Prop := e = .returned (.tuple #[]) ∧ w'.heap[g]? = some (.cells cs.toArray t (0, 0)) ∧ w.grownBy w' (some g)
set_option maxRecDepth 100000 in
set_option maxHeartbeats 800000 in
/-- put. -/
theorem put_any {g o n cap x : Nat} {cs : List Value} {t : TypeId} (hg : w.heap[g]? = some (.cells cs.toArray t (0, 0))) (hfit : o + n ≤ cs.length) (hn : n ≤ 8) :
    Calls Tryz.prog 169 #[.slice (some ⟨g, o, none⟩) n cap, .int .u64 x] w (PutPost g (splice cs o ((leN n x).map cu8)) t w) := by
  go_enter Tryz.func169, Tryz.ntmps169
  go_wp2
  go_loopg [7] n (fun gg i wr => ∃ k : Nat, k ≤ n ∧ gg = n - k ∧ i = .int .i64 k ∧ wr.heap[g]? = some (.cells (splice cs o ((leN k x).map cu8)).toArray t (0, 0)) ∧ w.grownBy wr (some g))
  case atStart => exact ⟨0, by omega, rfl, rfl, by rw [show (leN 0 x).map cu8 = [] from rfl, splice_nil _ _ (by omega)]; exact hg, grownBy_refl _ _⟩
  case round =>
    obtain ⟨k, hk, rfl, rfl, hR, hG⟩ := hrel
    by_cases hlt : k < n
    · have hlt' : (k : Int) < n := by omega
      have hlen : (splice cs o ((leN k x).map cu8)).length = cs.length := length_splice _ _ _ (by rw [List.length_map, leN_length]; omega)
      have hc : ∃ v, wr.cell? ⟨g, o + k, none⟩ = some v := by
        rw [cell_of_row wr g (o + k) _ _ _ hR]
        exact ⟨_, Array.getElem?_eq_getElem (by rw [List.size_toArray, hlen]; omega)⟩
      obtain ⟨cv, c0⟩ := hc
      have f0 := thawed_row hR (o + k)
      have n1 : (8 * (k : Int)).toNat = 8 * k := by omega
      have hv : IntKind.u8.wrap ((x : Int) / 2 ^ (8 * k)) = bz (UInt8.ofNat (x / 2 ^ (8 * k))) := byteN x (8 * k)
      have hst := setCell_row hR (o + k) (cu8 (UInt8.ofNat (x / 2 ^ (8 * k))))
      have hnx : (splice cs o ((leN k x).map cu8)).set (o + k) (cu8 (UInt8.ofNat (x / 2 ^ (8 * k)))) = splice cs o ((leN (k + 1) x).map cu8) := by
        rw [leN_succ, List.map_append]
        have := splice_snoc cs ((leN k x).map cu8) o (cu8 (UInt8.ofNat (x / 2 ^ (8 * k)))) (by rw [List.length_map, leN_length]; omega)
        rw [List.length_map, leN_length] at this
        exact this
      rw [hnx] at hst
      have hG' := grownBy_trans hG (grown_setCell wr ⟨g, o + k, none⟩ (cu8 (UInt8.ofNat (x / 2 ^ (8 * k)))))
      have Hst := Lib.hid hst; have HG := Lib.hid hG'
      clear hst hG' hnx hlen hR hG hg
      go_wp2
      go_roundg (n - (k + 1))
      case measure => omega
      case rel => exact ⟨k + 1, by omega, rfl, by go_num, Hst.out, HG.out⟩
    · obtain rfl : k = n := by omega
      have HR := Lib.hid hR; clear hR
      go_wp2
      first | go_end0 | refine bodyPost_ret (v := .tuple #[]) (results_none rfl _ _ _) rfl ?_
      exact ⟨rfl, HR.out, hG⟩
theorem numFrom_snoc : ∀ (l : List UInt8) (b : UInt8), numFrom (l ++ [b]) 0 = numFrom l 0 + b.toNat * 256 ^ l.length
  | [], b => by simp [numFrom]
  | a :: l, b => by
    have h := numFrom_snoc l b
    simp only [numFrom, List.drop_zero] at h
    simp only [numFrom, List.drop_zero, List.cons_append, List.foldr_cons, List.length_cons, h, Nat.pow_succ]
    rw [Nat.mul_add, ← Nat.add_assoc]
    congr 1
    rw [Nat.mul_left_comm, Nat.mul_comm (256 ^ l.length) 256]
theorem take_byte {bs : List UInt8} {k : Nat} (h : k < bs.length) : bs.take (k + 1) = bs.take k ++ [at8 bs k] := by
  rw [List.take_succ_eq_append_getElem h]; simp [at8, h]
theorem or_byte {bs : List UInt8} {k : Nat} (hk : k < bs.length) (h8 : bs.length ≤ 8) :
    bits .or .u64 (numFrom (bs.take k) 0 : Nat) (IntKind.u64.wrap (IntKind.u64.wrap (bz (at8 bs k)) * 2 ^ (8 * k))) = (numFrom (bs.take (k + 1)) 0 : Nat) := by
  have hb := (at8 bs k).toNat_lt
  have hl := numFrom_lt (bs.take k) 0
  rw [List.length_take, Nat.sub_zero, Nat.min_eq_left (by omega)] at hl
  have hpk : 256 ^ k = 2 ^ (8 * k) := by rw [Nat.pow_mul]
  have hle : 2 ^ (8 * k) * 256 ≤ 18446744073709551616 := by
    have : 2 ^ (8 * k) * 256 = 2 ^ (8 * k + 8) := by rw [Nat.pow_add]
    rw [this]; exact Nat.le_trans (Nat.pow_le_pow_right (by omega) (by omega : 8 * k + 8 ≤ 64)) (Nat.le_refl _)
  have h0 : 0 < 2 ^ (8 * k) := Nat.pow_pos (by omega)
  have hmul : (at8 bs k).toNat * 2 ^ (8 * k) < 18446744073709551616 := by
    have := Nat.mul_lt_mul_of_pos_right hb h0
    omega
  have e1 : IntKind.u64.wrap (bz (at8 bs k)) = ((at8 bs k).toNat : Int) := by rw [IntKind.wrap_u64, bz_eq]; omega
  have e2 : IntKind.u64.wrap (((at8 bs k).toNat : Int) * 2 ^ (8 * k)) = ((at8 bs k).toNat * 2 ^ (8 * k) : Nat) := by
    have : (((at8 bs k).toNat : Int) * 2 ^ (8 * k)) = ((at8 bs k).toNat * 2 ^ (8 * k) : Nat) := by simp
    rw [this, IntKind.wrap_u64]; omega
  rw [e1, e2, u64_or _ _ (by omega) (by rw [hpk] at hl; omega) (by omega) (by omega), take_byte hk, numFrom_snoc, List.length_take, Nat.min_eq_left (by omega), hpk]
  rw [Int.toNat_natCast, Int.toNat_natCast, Nat.or_comm, Nat.add_comm, ← Nat.shiftLeft_eq, Nat.shiftLeft_add_eq_or_of_lt (by rw [← hpk]; exact hl)]
  try rfl
set_option maxRecDepth 100000 in
set_option maxHeartbeats 800000 in
/-- get. -/
theorem get_any {bs : List UInt8} {n : Nat} (hl : bs.length = n) (hn : n ≤ 8) {g o cap : Nat} (hc : ∀ j, j < n → w.cell? ⟨g, o + j, none⟩ = some (.int .u8 (bz (at8 bs j)))) :
    Calls Tryz.prog 150 #[.slice (some ⟨g, o, none⟩) n cap] w fun e w' => e = .returned (.int .u64 (numFrom bs 0)) ∧ w = w' := by
  go_enter Tryz.func150, Tryz.ntmps150
  go_wp2
  go_loopg [3, 8] n (fun gg v i wx => ∃ k : Nat, k ≤ n ∧ gg = n - k ∧ v = .int .u64 (numFrom (bs.take k) 0) ∧ i = .int .i64 k ∧ wx = w)
  case atStart => exact ⟨0, by omega, rfl, rfl, rfl, rfl⟩
  case round =>
    obtain ⟨k, hk, rfl, rfl, rfl, rfl⟩ := hrel
    by_cases hlt : k < n
    · have hlt' : (k : Int) < n := by omega
      have c0 := hc k hlt
      have n1 : (8 * (k : Int)).toNat = 8 * k := by omega
      have hor := or_byte (bs := bs) (k := k) (by omega) (by omega)
      have Hor := Lib.hid hor; clear hor
      go_wp2
      go_roundg (n - (k + 1))
      case measure => omega
      case rel => exact ⟨k + 1, by omega, rfl, by rw [Hor.out], by go_num, rfl⟩
    · obtain rfl : k = n := by omega
      go_wp2
      go_ret
      exact ⟨by rw [List.take_of_length_le (by omega)]; rfl, rfl⟩

def z10 : List Value := List.replicate 10 (cu8 0)
theorem alloc10 (w : World) : (Instr.alloc 220 true (.tuple #[])).run Tryz.prog w = .ok (.pointer (some ⟨w.heap.size, 0, none⟩)) (w.alloc (.cells z10.toArray 220)) := by kernel_rfl
theorem head_cells (num k : Nat) : (splice (z10.set 0 (cu8 84)) 1 ((leN 8 num).map cu8)).set 9 (cu8 (UInt8.ofNat k)) = (head10 num k).map cu8 := by
  simp [splice, head10, le8, leN, z10, List.range_succ, List.replicate]
theorem bytes_one (l : List UInt8) : (l.map cu8).toArray.all (·.oneCell') = true := all_oneCell_toArray (fun v hv => by obtain ⟨x, _, rfl⟩ := List.mem_map.1 hv; rfl)
set_option maxRecDepth 100000 in
set_option maxHeartbeats 1000000 in
/-- opened. -/
theorem opened_any (num k : Nat) (w : World) :
    Calls Tryz.prog 147 #[.int .u64 num, .int .i64 k] w (AggPost (fun r => r = ((head10 num k).map cu8).toArray) w) := by
  have hb2 : Below w.heap.size w ((w.alloc (.cells z10.toArray 220)).alloc (.cells z10.toArray 220)) := ((Below.refl _ _).alloc (Nat.le_refl _) _).alloc (by simp) _
  have h1 : ((w.alloc (.cells z10.toArray 220)).alloc (.cells z10.toArray 220)).heap[w.heap.size]? = some (.cells z10.toArray 220 (0, 0)) := by
    rw [Below.heap_alloc _ _ _ (by simp)]; exact heap_alloc_new _ _
  have h2 : ((w.alloc (.cells z10.toArray 220)).alloc (.cells z10.toArray 220)).heap[w.heap.size + 1]? = some (.cells z10.toArray 220 (0, 0)) := by
    have := heap_alloc_new (w.alloc (.cells z10.toArray 220)) (.cells z10.toArray 220)
    simpa using this
  go_enter Tryz.func147, Tryz.ntmps147
  go_upto_region 2 with (refine wpList_alloc_arr rfl 220 rfl _ alloc10 ?_)
  try simp only [World.size_alloc]
  generalize (w.alloc (.cells z10.toArray 220)).alloc (.cells z10.toArray 220) = w2 at hb2 h1 h2 ⊢
  obtain ⟨o, ho⟩ : ∃ o, w.heap.size + 1 = o := ⟨_, rfl⟩
  obtain ⟨r, hr⟩ : ∃ r, w.heap.size = r := ⟨_, rfl⟩
  have Ho := Lib.hid ho; have Hr := Lib.hid hr
  rw [ho] at h2 ⊢
  clear ho
  rw [hr] at h1 hb2 ⊢
  clear hr
  have c0 : w2.cell? ⟨o, 0, none⟩ = some (.int .u8 0) := by rw [cell_of_row w2 o 0 _ _ _ h2]; rfl
  have f0 := thawed_row h2 0
  have h3 := setCell_row h2 0 (cu8 84)
  have hro : r ≠ o := by have := Ho.out; have := Hr.out; omega
  have hrn : r < w2.heap.size := (Array.getElem?_eq_some_iff.1 h1).1
  have hg3 : w2.grownBy (w2.setCell ⟨o, 0, none⟩ (cu8 84)) (some o) := grown_setCell _ _ _
  have H3 := Lib.hid h3; have H1 := Lib.hid h1; have H2 := Lib.hid h2; have Hb2 := Lib.hid hb2
  clear h3 h1 h2 hb2
  go_wp2_with (go_at_call 169; refine (put_any (x := num) (cs := z10.set 0 (cu8 84)) (t := 220) H3.out (by simp [z10]) (by omega)).mono ?_)
  rintro e w4 ⟨rfl, h4, hg4⟩
  have hg14 := grownBy_trans hg3 hg4
  have hlen : (splice (z10.set 0 (cu8 84)) 1 ((leN 8 num).map cu8)).length = 10 := by rw [length_splice _ _ _ (by rw [List.length_map, leN_length]; simp [z10])]; simp [z10]
  obtain ⟨cv, c9⟩ : ∃ v, w4.cell? ⟨o, 9, none⟩ = some v := by
    rw [cell_of_row w4 o 9 _ _ _ h4]
    exact ⟨_, Array.getElem?_eq_getElem (by rw [List.size_toArray, hlen]; omega)⟩
  have f9 := thawed_row h4 9
  have h5 := setCell_row h4 9 (cu8 (UInt8.ofNat k))
  rw [head_cells] at h5
  have hk8 : IntKind.u8.wrap (k : Int) = bz (UInt8.ofNat k) := by have := byteU k 0; simpa using this
  have hg15 := grownBy_trans hg14 (grown_setCell w4 ⟨o, 9, none⟩ (cu8 (UInt8.ofNat k)))
  have h15 := (hg15.block r hrn (by simpa using hro)).trans H1.out
  have hb5 : Below r w (w4.setCell ⟨o, 9, none⟩ (cu8 (UInt8.ofNat k))) := below_of_grown Hb2.out hg15 (by omega) (by have := Ho.out; have := Hr.out; omega)
  have H5 := Lib.hid h5; have H15 := Lib.hid h15; have Hb5 := Lib.hid hb5
  clear h4 h5 h15 hb5 hg3 hg4 hg14 hg15 hlen f0 c0
  obtain ⟨hv, Hv⟩ : ∃ hv : Array Value, Hid (hv = ((head10 num k).map cu8).toArray) := ⟨_, rfl⟩
  have hvn : Hid (hv.size = 10) := by rw [Hv.out, List.size_toArray, List.length_map]; exact head10_length num k
  have hv1 : Hid (hv.all (·.oneCell') = true) := by rw [Hv.out]; exact bytes_one _
  have hi10 : Hid ((Tryz.prog.info? 220).map (·.size) = some hv.size) := by rw [hvn.out]; exact (by kernel_rfl : (Tryz.prog.info? 220).map (·.size) = some 10)
  have hz10 : Hid (z10.toArray.size = hv.size) := by rw [hvn.out]; exact (rfl : z10.toArray.size = 10)
  have Hv5 : Hid ((w4.setCell ⟨o, 9, none⟩ (cu8 (UInt8.ofNat k))).heap[o]? = some (.cells hv 220 (0, 0))) := by rw [Hv.out]; exact H5.out
  go_wp2_with (first
    | (refine wpList_load_row rfl 220 _ rfl o rfl 220 hv (0, 0) _ Hv5.out Tryz.underlying220 rfl hi10.out ?_)
    | (refine wpList_store_row rfl 220 _ _ rfl r hv rfl rfl 220 z10.toArray H15.out hi10.out hz10.out hv1.out ?_))
  refine bodyPost_ret (v := .agg hv) ?_ rfl ⟨hv, Hv, rfl, by rw [Hr.out]; exact below_setRow Hb5.out (Nat.le_refl _) _⟩
  exact results_cell_row (ty := 220) rfl _ _ r 220 _ (0, 0) _ rfl (setRow_heap _ _ _ _ _ _ H15.out) Tryz.underlying220 rfl hi10.out

def z32 : List Value := List.replicate 32 (cu8 0)
theorem alloc32 (w : World) : (Instr.alloc 56 true (.tuple #[])).run Tryz.prog w = .ok (.pointer (some ⟨w.heap.size, 0, none⟩)) (w.alloc (.cells z32.toArray 56)) := by kernel_rfl
theorem RecAt.range (h : RecAt b pgs w) {i : Nat} {p : List UInt8} (hi : pgs[i]? = some p) (j n : Nat) (hj : j + n ≤ 64) : w.rangeAt b (i * 64 + j) (((p.drop j).take n).map cu8) := fun k v hk => by
  have hp : p.length = 64 := h.len p (List.mem_of_getElem? hi)
  rw [List.getElem?_map] at hk
  have hkn : k < n := by
    rcases Nat.lt_or_ge k n with h7 | h7
    · exact h7
    · rw [List.getElem?_eq_none (by simp; omega)] at hk; simp at hk
  rw [List.getElem?_take_of_lt hkn, List.getElem?_drop, List.getElem?_eq_getElem (show j + k < p.length by omega), Option.map_some] at hk
  rw [show i * 64 + j + k = i * 64 + (j + k) from by omega, h.cell hi (by omega), ← hk]
  simp [at8, List.getElem?_eq_getElem (show j + k < p.length by omega)]
set_option maxRecDepth 100000 in
set_option maxHeartbeats 1000000 in
/-- opening: the first ten bytes of the first page. -/
theorem opening_any {p : List UInt8} {ps : List (List UInt8)} (h : RecAt b (p :: ps) w) (L cap : Nat) (hL : 0 < L) :
    Calls Tryz.prog 146 #[.slice (some ⟨b, 0, none⟩) L cap] w (AggPost (fun r => r = ((p.take 10).map cu8).toArray) w) := by
  have hb1 := (Below.refl w.heap.size w).alloc (Nat.le_refl _) (.cells z10.toArray 220)
  have hp : p.length = 64 := h.len p (by simp)
  have hS := h.below hb1
  have hr := hS.range (i := 0) (p := p) rfl 0 10 (by omega)
  rw [Nat.zero_mul, List.drop_zero] at hr
  obtain ⟨hl, Hl⟩ : ∃ hl : List Value, Hid (hl = (p.take 10).map cu8) := ⟨_, rfl⟩
  rw [← Hl.out] at hr
  have hln : hl.length = 10 := by rw [Hl.out]; simp; omega
  have hvn : Hid (hl.toArray.size = 10) := by rw [List.size_toArray]; exact hln
  have hv1 : Hid (hl.toArray.all (·.oneCell') = true) := by rw [Hl.out]; exact bytes_one _
  have hi10 : Hid ((Tryz.prog.info? 220).map (·.size) = some hl.toArray.size) := by rw [hvn.out]; exact (by kernel_rfl : (Tryz.prog.info? 220).map (·.size) = some 10)
  have hi10' : Hid ((Tryz.prog.info? 220).map (·.size) = some hl.length) := by rw [hln]; exact (by kernel_rfl : (Tryz.prog.info? 220).map (·.size) = some 10)
  have hz10 : Hid (z10.toArray.size = hl.toArray.size) := by rw [hvn.out]; exact (rfl : z10.toArray.size = 10)
  have s3 : ∀ w : World, (Instr.arrayAt 220 (.slice (some ⟨b, 0, none⟩) 10 64)).run Tryz.prog w = .ok (.pointer (some ⟨b, 0, none⟩)) w := fun w => by kernel_rfl
  have Hr := Lib.hid hr
  clear hr hln hp
  go_enter Tryz.func146, Tryz.ntmps146
  go_wp2_with (first
    | (refine wpList_alloc_arr rfl 220 rfl _ alloc10 ?_)
    | (refine wpList_load_mid rfl 220 _ rfl b (0 + 0) rfl hl _ Hr.out Tryz.underlying220 rfl hi10'.out ?_)
    | (refine wpList_store_new rfl 220 _ _ rfl w.heap.size rfl hl.toArray rfl rfl 220 _ hi10.out hz10.out hv1.out ?_))
  refine bodyPost_ret (v := .agg hl.toArray) ?_ rfl ⟨hl.toArray, by rw [Hl.out]; exact rfl, rfl, (Below.refl _ _).alloc (Nat.le_refl _) _⟩
  exact results_cell_row (ty := 220) rfl _ _ w.heap.size 220 _ (0, 0) _ rfl (heap_alloc_new _ _) Tryz.underlying220 rfl hi10.out
set_option maxRecDepth 100000 in
set_option maxHeartbeats 1000000 in
/-- written: the 32 bytes from place ten of the first page on. -/
theorem written_any {p : List UInt8} {ps : List (List UInt8)} (h : RecAt b (p :: ps) w) (L cap : Nat) (hL : 0 < L) :
    Calls Tryz.prog 148 #[.slice (some ⟨b, 0, none⟩) L cap] w (AggPost (fun r => r = (((p.drop 10).take 32).map cu8).toArray) w) := by
  have hb1 := (Below.refl w.heap.size w).alloc (Nat.le_refl _) (.cells z32.toArray 56)
  have hp : p.length = 64 := h.len p (by simp)
  have hS := h.below hb1
  have hr := hS.range (i := 0) (p := p) rfl 10 32 (by omega)
  rw [Nat.zero_mul] at hr
  obtain ⟨hl, Hl⟩ : ∃ hl : List Value, Hid (hl = ((p.drop 10).take 32).map cu8) := ⟨_, rfl⟩
  rw [← Hl.out] at hr
  have hln : hl.length = 32 := by rw [Hl.out]; simp; omega
  have hvn : Hid (hl.toArray.size = 32) := by rw [List.size_toArray]; exact hln
  have hv1 : Hid (hl.toArray.all (·.oneCell') = true) := by rw [Hl.out]; exact bytes_one _
  have hi10 : Hid ((Tryz.prog.info? 56).map (·.size) = some hl.toArray.size) := by rw [hvn.out]; exact (by kernel_rfl : (Tryz.prog.info? 56).map (·.size) = some 32)
  have hi10' : Hid ((Tryz.prog.info? 56).map (·.size) = some hl.length) := by rw [hln]; exact (by kernel_rfl : (Tryz.prog.info? 56).map (·.size) = some 32)
  have hz10 : Hid (z32.toArray.size = hl.toArray.size) := by rw [hvn.out]; exact (rfl : z32.toArray.size = 32)
  have s3 : ∀ w : World, (Instr.arrayAt 56 (.slice (some ⟨b, 10, none⟩) 32 54)).run Tryz.prog w = .ok (.pointer (some ⟨b, 10, none⟩)) w := fun w => by kernel_rfl
  have Hr := Lib.hid hr
  clear hr hln hp
  go_enter Tryz.func148, Tryz.ntmps148
  go_wp2_with (first
    | (refine wpList_alloc_arr rfl 56 rfl _ alloc32 ?_)
    | (refine wpList_load_mid rfl 56 _ rfl b (0 + 10) rfl hl _ Hr.out Tryz.underlying56 rfl hi10'.out ?_)
    | (refine wpList_store_new rfl 56 _ _ rfl w.heap.size rfl hl.toArray rfl rfl 56 _ hi10.out hz10.out hv1.out ?_))
  refine bodyPost_ret (v := .agg hl.toArray) ?_ rfl ⟨hl.toArray, by rw [Hl.out]; exact rfl, rfl, (Below.refl _ _).alloc (Nat.le_refl _) _⟩
  exact results_cell_row (ty := 56) rfl _ _ w.heap.size 56 _ (0, 0) _ rfl (heap_alloc_new _ _) Tryz.underlying56 rfl hi10.out
/-- A part of an array of one-cell elements that lies in memory. -/
theorem run_sliceArr {P : Program} (T E : TypeId) (n : Nat) (hT : P.underlying T = some (.array n E)) (hs : (P.info? E).map (·.size) = some 1) (b o lo hi : Nat) (h1 : lo ≤ hi) (h2 : hi ≤ n) (h3 : lo < n) (w : World) :
    (Instr.sliceAt T (.pointer (some ⟨b, o, none⟩)) (some (.int .i64 (lo : Int))) (some (.int .i64 (hi : Int))) none).run P w = .ok (.slice (some ⟨b, o + lo, none⟩) (hi - lo) (n - lo)) w := by
  have hE : P.elem T = E := by simp [Program.elem, hT]
  have hn : P.arrayLen T = n := by simp [Program.arrayLen, hT]
  have hsz : ∀ w : World, (sizeOf E).run P w = .ok 1 w := fun w => by
    cases hq : P.info? E with
    | none => simp [hq] at hs
    | some i =>
      have hi : i.size = 1 := by simpa [hq] using hs
      simp [sizeOf, typeInfo, hq, hi]
  have hadd : (⟨b, o, none⟩ : Addr).add lo = ⟨b, o + lo, none⟩ := by unfold Addr.add; split <;> simp_all
  rw [run_sliceAt_array_lh (ht := by rw [hE, hn]; exact hT) (h0 := by omega) (h1 := by omega) (h2 := by rw [hn]; omega), hn, hE, hsz w]
  simp only [Result.andThen, slicedAt, Int.toNat_natCast, Nat.mul_one]
  rw [if_neg (by omega), hadd]
set_option maxRecDepth 100000 in
set_option maxHeartbeats 1000000 in
/-- number: where the page number of change i stands. -/
theorem pnumber_any (L cap i : Nat) (hL : 1 + i / 16 < L) (hi : i ≤ 4096) (w : World) :
    Calls Tryz.prog 151 #[.slice (some ⟨b, 0, none⟩) L cap, .int .i64 i] w fun e w' => e = .returned (.slice (some ⟨b, (1 + i / 16) * 64 + 4 * (i % 16), none⟩) 4 (64 - 4 * (i % 16))) ∧ w = w' := by
  have hsl : ∀ W : World, (Instr.sliceAt 33 (.pointer (some ⟨b, (1 + i / 16) * 64, none⟩)) (some (.int .i64 ((i : Int) % 16 * 4))) (some (.int .i64 ((i : Int) % 16 * 4 + 4))) none).run Tryz.prog W = .ok (.slice (some ⟨b, (1 + i / 16) * 64 + 4 * (i % 16), none⟩) 4 (64 - 4 * (i % 16))) W := fun W => by
    have e1 : (i : Int) % 16 * 4 = ((4 * (i % 16) : Nat) : Int) := by omega
    have e2 : ((4 * (i % 16) : Nat) : Int) + 4 = ((4 * (i % 16) + 4 : Nat) : Int) := by omega
    rw [e1, e2, run_sliceArr 33 5 64 Tryz.underlying33 (by kernel_rfl) b _ _ _ (by omega) (by omega) (by omega), Nat.add_sub_cancel_left]
  go_enter Tryz.func151, Tryz.ntmps151
  go_wp2
  go_ret
  exact ⟨rfl, rfl⟩
end
end Go.Proofs.YtjkkbceddbkejaaGreatDoor

/-
  The program's ring: a record's digest.
-/
namespace Go.Proofs.YtjkkbceddbkejaaGreatDoor
open Go.RowKit Sh

theorem run_slice_pages (b L cap : Nat) (h1 : 2 ≤ L) (h2 : L ≤ cap) (w : World) :
    (Instr.sliceAt 73 (.slice (some ⟨b, 0, none⟩) L cap) (some (.int .i64 1)) none none).run Tryz.prog w = .ok (.slice (some ⟨b, 64, none⟩) (L - 1) (cap - 1)) w := by
  have hT := Tryz.underlying73
  have hE : Tryz.prog.elem 73 = 33 := by simp [Program.elem, hT]
  have hsz : ∀ w : World, (sizeOf 33).run Tryz.prog w = .ok 64 w := fun w => by kernel_rfl
  have hadd : (⟨b, 0, none⟩ : Addr).add 64 = ⟨b, 64, none⟩ := rfl
  rw [run_sliceAt_slice (h := by rw [hE]; exact hT), run_slice_l (ht := by rw [hE]; exact hT) (h0 := by omega) (h1 := by omega), hE, hsz w]
  simp only [Result.andThen, sliced]
  rw [if_neg (by simp; omega)]
  rfl
section
variable {b : Nat} {pgs : List (List UInt8)} {w w' : World}
/-- The pages' bytes ahead of page k, and behind. -/
theorem take_flat {ps : List (List UInt8)} {k : Nat} (h : k < ps.length) : (ps.take (k + 1)).flatten = (ps.take k).flatten ++ ps.getD k [] := by
  rw [List.take_succ_eq_append_getElem h, List.flatten_append]; simp [h]
theorem getD_some {ps : List (List UInt8)} {k : Nat} (h : k < ps.length) : ps[k]? = some (ps.getD k []) := by simp [h]
theorem take_flat_len {ps : List (List UInt8)} (h : ∀ p ∈ ps, p.length = 64) (k : Nat) : (ps.take k).flatten.length ≤ ps.length * 64 := by
  rw [flat_len (fun p hp => h p (List.mem_of_mem_take hp)), List.length_take]; omega

structure PDgW (b g r x : Nat) (pgs : List (List UInt8)) (m : List UInt8) (w wr : World) : Prop where
  hash : HashAt wr g m
  rec_ : RecAt b pgs wr
  res : wr.heap[r]? = some (.cells z32.toArray 56 (0, 0))
  bel : Below x w wr
set_option maxRecDepth 100000 in
set_option maxHeartbeats 4000000 in
/-- digest. -/
theorem pdigest_any {p : List UInt8} {ps : List (List UInt8)} (h : RecAt b (p :: ps) w) (cap : Nat) (L : Nat) (hL : L = ps.length + 1) (h2 : 2 ≤ L) (h65 : L ≤ 4096) (hcap : L ≤ cap) (last : List UInt8) (hlast : last.length = 32) :
    Calls Tryz.prog 149 #[.agg (last.map cu8).toArray, .slice (some ⟨b, 0, none⟩) L cap] w (AggPost (fun r => r = ((dig (last ++ (p.take 10 ++ ps.flatten))).map cu8).toArray) w) := by
  subst hL
  obtain ⟨J, hJ⟩ : ∃ J, ps.length = J := ⟨_, rfl⟩
  rw [hJ] at h2 h65 hcap ⊢
  have HJ := Lib.hid hJ
  clear hJ
  obtain ⟨lv, Hlv⟩ : ∃ lv : List Value, Hid (lv = last.map cu8) := ⟨_, rfl⟩
  rw [← Hlv.out]
  have hlv : lv.length = 32 := by rw [Hlv.out, List.length_map, hlast]
  have hp : p.length = 64 := h.len p (by simp)
  -- the box, the result's block
  have hb2 : Below w.heap.size w ((w.alloc (.cells lv.toArray 56)).alloc (.cells z32.toArray 56)) := ((Below.refl _ _).alloc (Nat.le_refl _) _).alloc (by simp) _
  have h1 : ((w.alloc (.cells lv.toArray 56)).alloc (.cells z32.toArray 56)).heap[w.heap.size]? = some (.cells lv.toArray 56 (0, 0)) := by
    rw [Below.heap_alloc _ _ _ (by simp)]; exact heap_alloc_new _ _
  have hr2 : ((w.alloc (.cells lv.toArray 56)).alloc (.cells z32.toArray 56)).heap[w.heap.size + 1]? = some (.cells z32.toArray 56 (0, 0)) := by
    have := heap_alloc_new (w.alloc (.cells lv.toArray 56)) (.cells z32.toArray 56)
    simpa using this
  go_enter Tryz.func149, Tryz.ntmps149
  go_upto_region 1 with (refine wpList_alloc_arr rfl 56 rfl _ alloc32 ?_)
  try simp only [World.size_alloc]
  generalize (w.alloc (.cells lv.toArray 56)).alloc (.cells z32.toArray 56) = w2 at hb2 h1 hr2 ⊢
  obtain ⟨r, hr⟩ : ∃ r, w.heap.size + 1 = r := ⟨_, rfl⟩
  obtain ⟨x, hx⟩ : ∃ x, w.heap.size = x := ⟨_, rfl⟩
  have hxr : x + 1 = r := by omega
  rw [hr] at hr2 ⊢
  rw [hx] at h1 hb2 ⊢
  have Hx := Lib.hid hx
  clear hr hx
  have hxl : x < w2.heap.size := (Array.getElem?_eq_some_iff.1 h1).1
  have hrl : r < w2.heap.size := (Array.getElem?_eq_some_iff.1 hr2).1
  have hR2 : RecAt b (p :: ps) w2 := by rw [← Hx.out] at hb2; exact h.below hb2
  have hbx : b < x := by have := h.lt; have := Hx.out; omega
  have Hb2 := Lib.hid hb2; have H1 := Lib.hid h1; have Hr2 := Lib.hid hr2
  clear hb2 h1 hr2 h
  go_wp2_with (go_at_call 136; refine (new_any _).mono ?_)
  rintro e w3 ⟨g, rfl, hg, hH, hb3⟩
  have hxg : x < g ∧ r < g := by omega
  have Hb3 := Lib.hid (Hb2.out.trans (hb3.mono (by omega)))
  have H13 := Lib.hid ((hb3.block x hxl).trans H1.out)
  have Hr3 := Lib.hid ((hb3.block r hrl).trans Hr2.out)
  have hR3 := hR2.below hb3
  have hgl := hH.lt
  clear Hb2 H1 Hr2 hR2 hb3 hxl hrl
  -- the Last
  have hw1 := write_any g [] last (some ⟨x, 0, none⟩) x 0 32 w3 hH (by omega) (by omega) (by unfold maxLen; omega) (fun _ => rfl) (fun j hj => by
    rw [Nat.zero_add, cell_of_row w3 x j _ _ _ H13.out, List.getElem?_toArray, Hlv.out, List.getElem?_map, List.getElem?_eq_getElem hj]; simp [at8, hj]) (by simp; omega)
  rw [hlast, List.nil_append] at hw1
  clear hH
  go_wp2_with (go_at_call 137; refine hw1.mono ?_)
  clear hw1
  rintro e w4 ⟨rfl, hH, hg4⟩
  have hR4 := hR3.of_block (hg4.block b (hR3.lt) (by simp; omega))
  have Hr4 := Lib.hid ((hg4.block r (by omega) (by simp; omega)).trans Hr3.out)
  have Hb4 := Lib.hid (below_of_grown Hb3.out hg4 (by omega) (by omega))
  have hs4 : g < w4.heap.size := hH.lt
  clear Hr3 Hb3 hR3 hg4 H13
  -- the first ten bytes
  have hw2 := write_any g last (p.take 10) (some ⟨b, 0, none⟩) b 0 64 w4 hH (by omega) (by simp; omega) (by unfold maxLen; omega) (fun _ => rfl) (fun j hj => by
    have hj10 : j < 10 := by simp at hj; omega
    have := hR4.cell (i := 0) (j := j) (p := p) rfl (by omega)
    rw [Nat.zero_mul] at this
    rw [this]
    simp [at8, List.getElem?_take_of_lt hj10]) (by simp; omega)
  rw [show (p.take 10).length = 10 from by simp; omega] at hw2
  clear hH
  go_wp2_with (go_at_call 137; refine hw2.mono ?_)
  clear hw2
  rintro e w5 ⟨rfl, hH, hg5⟩
  have hR5 := hR4.of_block (hg5.block b (hR4.lt) (by simp; omega))
  have Hr5 := Lib.hid ((hg5.block r (by omega) (by simp; omega)).trans Hr4.out)
  have Hb5 := Lib.hid (below_of_grown Hb4.out hg5 (by omega) (by omega))
  clear Hr4 Hb4 hR4 hg5 hs4
  have hsl := run_slice_pages b (J + 1) cap h2 hcap
  rw [Nat.add_sub_cancel] at hsl
  obtain ⟨m0, Hm0⟩ : ∃ m0, Hid (m0 = last ++ p.take 10) := ⟨_, rfl⟩
  have hm0 : m0.length = 42 := by rw [Hm0.out]; simp [hlast, hp]
  rw [← Hm0.out] at hH
  have hW0 : PDgW b g r x (p :: ps) m0 w w5 := ⟨hH, hR5, Hr5.out, Hb5.out⟩
  clear hH hR5 Hr5 Hb5 hgl hg
  go_wp2
  go_loopg [20] J (fun gg i wr => ∃ k : Nat, k ≤ J ∧ gg = J - k ∧ i = .int .i64 k ∧ PDgW b g r x (p :: ps) (m0 ++ (ps.take k).flatten) w wr)
  case atStart => exact ⟨0, by omega, rfl, rfl, by simpa using hW0⟩
  case round =>
    clear hW0 hsl
    obtain ⟨k, hk, rfl, rfl, hW⟩ := hrel
    by_cases hlt : k < J
    · have hlt' : (k : Int) < J := by omega
      have hkl : k < ps.length := by rw [HJ.out]; exact hlt
      have hlen := take_flat_len (ps := ps) (fun q hq => hW.rec_.len q (by simp [hq])) k
      rw [HJ.out] at hlen
      have hgw := hW.hash.lt
      obtain ⟨q, Hq⟩ : ∃ q, Hid (q = ps.getD k []) := ⟨_, rfl⟩
      have hqs : ps[k]? = some q := by rw [Hq.out]; exact getD_some hkl
      have hq64 : q.length = 64 := hW.rec_.len _ (List.mem_cons_of_mem _ (List.mem_of_getElem? hqs))
      have hr := hW.rec_.range (i := k + 1) (p := q) (by rw [List.getElem?_cons_succ]; exact hqs) 0 64 (by omega)
      rw [List.drop_zero, List.take_of_length_le (by omega), show (k + 1) * 64 + 0 = 64 + k * 64 from by omega] at hr
      obtain ⟨qv, Hqv⟩ : ∃ qv : List Value, Hid (qv = q.map cu8) := ⟨_, rfl⟩
      rw [← Hqv.out] at hr
      have hqvl : qv.length = 64 := by rw [Hqv.out, List.length_map, hq64]
      have hqi : Hid ((Tryz.prog.info? 33).map (·.size) = some qv.length) := by rw [hqvl]; exact info64
      have hqi2 : Hid ((Tryz.prog.info? 33).map (·.size) = some qv.toArray.size) := by rw [List.size_toArray, hqvl]; exact info64
      have hqz : Hid (zeros64.size = qv.toArray.size) := by rw [show qv.toArray.size = 64 from by rw [List.size_toArray, hqvl]]; exact (rfl : zeros64.size = 64)
      have hq1 : Hid (qv.toArray.all (·.oneCell') = true) := by rw [Hqv.out]; exact bytes_one _
      have hba : Below wr.heap.size wr (wr.alloc (.cells qv.toArray 33)) := (Below.refl _ _).alloc (Nat.le_refl _) _
      have hWa : PDgW b g r x (p :: ps) (m0 ++ (ps.take k).flatten) w (wr.alloc (.cells qv.toArray 33)) :=
        ⟨hW.hash.of_block (hba.block g hgw), hW.rec_.below hba, (hba.block r (by omega)).trans hW.res, hW.bel.trans (hba.mono (by omega))⟩
      have hw := write_any g (m0 ++ (ps.take k).flatten) q (some ⟨wr.heap.size, 0, none⟩) wr.heap.size 0 64 (wr.alloc (.cells qv.toArray 33)) hWa.hash (by omega) (by omega) (by unfold maxLen; omega) (fun _ => rfl) (fun j hj => by
        rw [Nat.zero_add, cell_of_row _ wr.heap.size j _ _ _ (heap_alloc_new wr _), List.getElem?_toArray, Hqv.out, List.getElem?_map, List.getElem?_eq_getElem hj]; simp [at8, hj]) (by rw [List.length_append, hm0, hq64]; omega)
      rw [hq64, List.append_assoc] at hw
      have hnx : (ps.take k).flatten ++ q = (ps.take (k + 1)).flatten := by rw [take_flat hkl, Hq.out]
      rw [hnx] at hw
      have Hr := Lib.hid hr
      clear hr hnx hkl hqs
      go_wp2_with (first
        | (refine wpList_alloc_arr rfl 33 rfl _ alloc64 ?_)
        | (refine wpList_load_mid rfl 33 _ rfl b (64 + k * 64) rfl qv _ Hr.out Tryz.underlying33 rfl hqi.out ?_)
        | (refine wpList_store_new rfl 33 _ _ rfl wr.heap.size rfl qv.toArray rfl rfl 33 _ hqi2.out hqz.out hq1.out ?_)
        | (go_at_call 137; refine hw.mono ?_))
      rintro e w6 ⟨rfl, hH6, hg6⟩
      have hbg : b ≠ g := by omega
      have hW6 : PDgW b g r x (p :: ps) (m0 ++ (ps.take (k + 1)).flatten) w w6 :=
        ⟨hH6, hWa.rec_.of_block (hg6.block b hWa.rec_.lt (by simpa using hbg)), (hg6.block r (by have := hba.size; omega) (by simp; omega)).trans hWa.res, below_of_grown hWa.bel hg6 (by have := hba.size; omega) (by omega)⟩
      clear hw hWa hba hH6 hg6 hW
      go_wp2
      go_roundg (J - (k + 1))
      case measure => omega
      case rel => exact ⟨k + 1, by omega, rfl, by go_num, hW6⟩
    · obtain rfl : k = J := by omega
      rw [List.take_of_length_le (by rw [HJ.out]; omega), Hm0.out, List.append_assoc] at hW
      have Hr9 := Lib.hid hW.res
      have Hb9 := Lib.hid hW.bel
      have hfl := flat_len (pgs := ps) (fun q hq => hW.rec_.len q (by simp [hq]))
      rw [HJ.out] at hfl
      have hsum := sum_any g _ wr hW.hash (by simp only [List.length_append, hfl, hlast, List.length_take]; omega)
      have hgw := hW.hash.lt
      clear hW hfl
      go_wp2_with (first
        | (go_at_call 138; refine hsum.mono ?_))
      rintro e w7 ⟨rv, Hrv, rfl, hb7⟩
      have Hr7 := Lib.hid ((hb7.block r (by omega)).trans Hr9.out)
      have Hb7 := Lib.hid (Hb9.out.trans (hb7.mono (by omega)))
      have hri : Hid ((Tryz.prog.info? 56).map (·.size) = some rv.size) := by rw [(dig_size Hrv).out]; exact (by kernel_rfl : (Tryz.prog.info? 56).map (·.size) = some 32)
      have hrz : Hid (z32.toArray.size = rv.size) := by rw [(dig_size Hrv).out]; exact (rfl : z32.toArray.size = 32)
      clear hsum hb7 Hr9 Hb9
      go_wp2_with (first
        | (refine wpList_store_row rfl 56 _ _ rfl r rv rfl rfl 56 z32.toArray Hr7.out hri.out hrz.out (dig_one Hrv).out ?_))
      refine bodyPost_ret (v := .agg rv) ?_ rfl ⟨rv, Hrv, rfl, by rw [Hx.out]; exact below_setRow Hb7.out (by omega) _⟩
      exact results_cell_row (ty := 56) rfl _ _ r 56 _ (0, 0) _ rfl (setRow_heap _ _ _ _ _ _ Hr7.out) Tryz.underlying56 rfl hri.out
end
end Go.Proofs.YtjkkbceddbkejaaGreatDoor

/-
  The program's ring in memory; Room, Fits, Head, Cut, sector.
-/
namespace Go.Proofs.YtjkkbceddbkejaaGreatDoor
open Go.RowKit Sh

/-- The program's ring in block g, its disk in block gd. -/
structure PrAt (g gd first n : Nat) (m : Mk) (used : Nat) (w : World) : Prop where
  at_ : w.heap[g]? = some (.cells (ringCells gd first n m used) 189 (0, 0))
  last : m.last.length = 32
/-- What can be said of all rings. -/
structure RingOk (first n : Nat) (m : Mk) (used : Nat) : Prop where
  n0 : 96 ≤ n
  n1 : n ≤ 4096
  first : first ≤ 4096
  place : m.place < n
  num : m.num < 18446744073709551616
  used : used ≤ n
def QuietP (v : Value) (w : World) (e : Ending) (w' : World) : Prop := e = .returned v ∧ ∃ m, w' = w.drewN m
theorem below_drewN (w : World) (m B : Nat) : Below B w (w.drewN m) := ⟨rfl, rfl, rfl, Nat.le_refl _, fun _ _ => rfl⟩
section
variable {g gd first n used : Nat} {m : Mk} {w w' : World}
theorem PrAt.lt (h : PrAt g gd first n m used w) : g < w.heap.size := (Array.getElem?_eq_some_iff.1 h.at_).1
theorem PrAt.cell (h : PrAt g gd first n m used w) (j : Nat) : w.cell? ⟨g, j, none⟩ = (ringCells gd first n m used)[j]? := cell_of_row w g j _ _ _ h.at_
theorem PrAt.cell37 (h : PrAt g gd first n m used w) : w.cell? ⟨g, 37, none⟩ = some (.int .i64 used) := by
  rw [h.cell]
  have : (m.last.map cu8).length = 32 := by simp [h.last]
  simp [ringCells, List.getElem?_append_right, this]
theorem PrAt.of_block (h : PrAt g gd first n m used w) (e : w'.heap[g]? = w.heap[g]?) : PrAt g gd first n m used w' := ⟨e.trans h.at_, h.last⟩
theorem PrAt.below (h : PrAt g gd first n m used w) (hb : Below w.heap.size w w') : PrAt g gd first n m used w' := h.of_block (hb.block g h.lt)
theorem PrAt.cells (h : PrAt g gd first n m used w) : w.cell? ⟨g, 0, none⟩ = some (.pointer (some ⟨gd, 0, none⟩)) ∧ w.cell? ⟨g, 1, none⟩ = some (.int .i64 first) ∧ w.cell? ⟨g, 2, none⟩ = some (.int .i64 n) ∧ w.cell? ⟨g, 3, none⟩ = some (.int .i64 m.place) ∧ w.cell? ⟨g, 4, none⟩ = some (.int .u64 m.num) ∧ w.cell? ⟨g, 37, none⟩ = some (.int .i64 used) := by
  refine ⟨?_, ?_, ?_, ?_, ?_, h.cell37⟩ <;> rw [h.cell] <;> simp [ringCells]
theorem PrAt.thawed (h : PrAt g gd first n m used w) (j : Nat) : w.frozen? ⟨g, j, none⟩ = false := by simp [World.frozen?, h.at_]
/-- The head lies in the ring's block. -/
theorem PrAt.mark (h : PrAt g gd first n m used w) : w.rangeAt g 3 (markCells m) := fun j v hj => by
  rw [h.cell]
  have hl : (markCells m).length = 34 := by simp [markCells, h.last]
  have hj34 : j < 34 := by
    rcases Nat.lt_or_ge j 34 with h7 | h7
    · exact h7
    · rw [List.getElem?_eq_none (by omega)] at hj; simp at hj
  rw [← hj]
  simp only [ringCells, List.getElem?_toArray, markCells]
  rw [show 3 + j = j + 1 + 1 + 1 from by omega, List.getElem?_cons_succ, List.getElem?_cons_succ, List.getElem?_cons_succ]
  match j, hj34 with
  | 0, _ => rfl
  | 1, _ => rfl
  | j + 2, hj => simp only [List.getElem?_cons_succ]; rw [List.getElem?_append_left (by simp [h.last]; omega)]
theorem PrAt.lastAt (h : PrAt g gd first n m used w) : w.rangeAt g 5 (m.last.map cu8) := fun j v hj => by
  have := h.mark (j + 2) v (by simpa [markCells] using hj)
  rw [show 5 + j = 3 + (j + 2) from by omega]; exact this
theorem mark_one (m : Mk) : ∀ v ∈ markCells m, v.oneCell' = true := fun v hv => by
  simp only [markCells, List.mem_cons, List.mem_map] at hv
  rcases hv with rfl | rfl | ⟨x, _, rfl⟩ <;> rfl

set_option maxRecDepth 100000 in
/-- Room. -/
theorem room_any (h : PrAt g gd first n m used w) (hO : RingOk first n m used) : Calls Tryz.prog 142 #[.pointer (some ⟨g, 0, none⟩)] w (QuietP (.int .i64 ((n - used : Nat) : Int)) w) := by
  obtain ⟨c0, c1, c2, c3, c4, c37⟩ := h.cells
  obtain ⟨n0, n1, _, _, _, u1⟩ := hO
  obtain ⟨R, hR⟩ : ∃ R, n - used = R := ⟨_, rfl⟩
  have hw : IntKind.i64.wrap ((n : Int) - (used : Int)) = (R : Int) := by rw [IntWalk.i64_in _ (by omega)]; omega
  rw [hR]
  have HR := Lib.hid hR
  clear hR n0 n1 u1 h
  go_enter Tryz.func142, Tryz.ntmps142
  go_wp2
  go_quiet (fail)
  go_wp2
  go_ret
  exact ⟨rfl, _, rfl⟩
theorem room_nil (w : World) : Calls Tryz.prog 142 #[.pointer none] w (QuietP (.int .i64 0) w) := by
  go_enter Tryz.func142, Tryz.ntmps142
  go_wp2
  go_ret
  exact ⟨rfl, 0, rfl⟩
/-- sector. -/
theorem sector_any (h : PrAt g gd first n m used w) (hO : RingOk first n m used) (i : Nat) (hi : i ≤ 4096) : Calls Tryz.prog 168 #[.pointer (some ⟨g, 0, none⟩), .int .i64 i] w (QuietP (.int .i64 ((first + (m.place + i) % n : Nat) : Int)) w) := by
  obtain ⟨c0, c1, c2, c3, c4, c37⟩ := h.cells
  obtain ⟨n0, n1, f1, p1, _, u1⟩ := hO
  have hn0 : ¬ n = 0 := by omega
  have hmod := Nat.mod_lt (m.place + i) (show 0 < n by omega)
  obtain ⟨R, hR⟩ : ∃ R, first + (m.place + i) % n = R := ⟨_, rfl⟩
  obtain ⟨A, hA⟩ : ∃ A, m.place + i = A := ⟨_, rfl⟩
  rw [hA] at hR hmod
  have hw1 : IntKind.i64.wrap ((m.place : Int) + (i : Int)) = (A : Int) := by rw [IntWalk.i64_in _ (by omega)]; omega
  have hw1' : IntKind.i64.wrap (A : Int) = (A : Int) := IntWalk.i64_in _ (by omega)
  obtain ⟨Q, hQ⟩ : ∃ Q, A % n = Q := ⟨_, rfl⟩
  have hw2 : Int.tmod (A : Int) (n : Int) = (Q : Int) := by rw [Int.tmod_eq_emod_of_nonneg (by omega)]; omega
  have hw3 : (A : Int) % (n : Int) = (Q : Int) := by omega
  rw [hQ] at hR hmod
  have hw4 : IntKind.i64.wrap (Q : Int) = (Q : Int) := IntWalk.i64_in _ (by omega)
  have hw5 : IntKind.i64.wrap ((first : Int) + (Q : Int)) = (R : Int) := by rw [IntWalk.i64_in _ (by omega)]; omega
  rw [hA, hQ, hR]
  have HR := Lib.hid hR; have HA := Lib.hid hA; have HQ := Lib.hid hQ
  clear hR hA hQ h
  go_enter Tryz.func168, Tryz.ntmps168
  go_wp2
  go_quiet (fail)
  go_wp2
  go_ret
  exact ⟨rfl, _, rfl⟩
end
end Go.Proofs.YtjkkbceddbkejaaGreatDoor

/-
  The program's ring: Fits, Head, Cut.
-/
namespace Go.Proofs.YtjkkbceddbkejaaGreatDoor
open Go.RowKit Sh

theorem wpList_buildZ {ops : Array Oper} {Q : Exit → Act → World → Prop} {a : Act} {w : World} {o : Oper} {rest : List Oper} (T : TypeId) (ho : o.op = .build T #[]) (p : Array Value)
    (hb : Tryz.prog.built T [] = some p) (hw : Region.wanted o (yielded ops a.tmps) = true) (h : wpList Tryz.prog ops Q rest (a.put o.dst (.agg p)) w) : wpList Tryz.prog ops Q (o :: rest) a w := by
  refine wpList_val hw (exec_build w ho ?_) h
  have e : ((#[] : Array (Nat × Operand)).map fun (i, x) => (i, a.eval x)).toList = [] := by simp
  rw [e]; exact hb
def fitsB (room k : Nat) : Bool := decide (1 ≤ k ∧ k ≤ 60 ∧ takes k ≤ room)
theorem fitsB_iff (room k : Nat) : fitsB room k = true ↔ 1 ≤ k ∧ k ≤ 60 ∧ takes k ≤ room := by simp [fitsB]
theorem fits_of {v : Value} {b c : Bool} {w w' : World} {e : Ending} (h : QuietP (.bool c) w e w') (hbc : c = b) : QuietP (.bool b) w e w' := hbc ▸ h
set_option maxRecDepth 100000 in
set_option maxHeartbeats 1000000 in
/-- Fits, of any ring whose Room answers so. -/
theorem fits_room (p : Value) (R k : Nat) (hR : R ≤ 4096) (hk : k ≤ 4096) (w : World) (hroom : ∀ W : World, W = w → Calls Tryz.prog 142 #[p] W (QuietP (.int .i64 (R : Int)) W)) :
    Calls Tryz.prog 124 #[p, .int .i64 k] w (QuietP (.bool (fitsB R k)) w) := by
  by_cases h1 : 1 ≤ k
  · by_cases h60 : k ≤ 60
    · obtain ⟨T, hT⟩ : ∃ T, takes k = T := ⟨_, rfl⟩
      have hsz := psize_any k hk w
      rw [hT] at hsz
      by_cases hf : T ≤ R
      · have hb : fitsB R k = true := (fitsB_iff R k).2 ⟨h1, h60, by rw [hT]; exact hf⟩
        rw [hb]
        have hd : decide ((T : Int) ≤ (R : Int)) = true := by simpa using hf
        clear hT
        go_enter Tryz.func124, Tryz.ntmps124
        go_wp2_with (first
          | (go_at_call 141; refine hsz.mono ?_; rintro e w' ⟨rfl, rfl⟩)
          | (go_at_call 142; refine (hroom _ rfl).mono ?_; rintro e w' ⟨rfl, m, rfl⟩))
        go_ret
        exact ⟨rfl, m, rfl⟩
      · have hb : fitsB R k = false := by
          cases hc : fitsB R k
          · rfl
          · exact absurd ((fitsB_iff R k).1 hc).2.2 (by rw [hT]; exact hf)
        rw [hb]
        have hd : decide ((T : Int) ≤ (R : Int)) = false := by simpa using hf
        clear hT
        go_enter Tryz.func124, Tryz.ntmps124
        go_wp2_with (first
          | (go_at_call 141; refine hsz.mono ?_; rintro e w' ⟨rfl, rfl⟩)
          | (go_at_call 142; refine (hroom _ rfl).mono ?_; rintro e w' ⟨rfl, m, rfl⟩))
        go_ret
        exact ⟨rfl, m, rfl⟩
    · have hb : fitsB R k = false := by simp [fitsB, h60]
      rw [hb]
      go_enter Tryz.func124, Tryz.ntmps124
      go_wp2
      go_ret
      exact ⟨rfl, 0, rfl⟩
  · have hb : fitsB R k = false := by simp [fitsB, h1]
    rw [hb]
    go_enter Tryz.func124, Tryz.ntmps124
    go_wp2
    go_ret
    exact ⟨rfl, 0, rfl⟩
section
variable {g gd first n used : Nat} {m : Mk} {w w' : World}
theorem fits_any (h : PrAt g gd first n m used w) (hO : RingOk first n m used) (k : Nat) (hk : k ≤ 4096) : Calls Tryz.prog 124 #[.pointer (some ⟨g, 0, none⟩), .int .i64 k] w (QuietP (.bool (fitsB (n - used) k)) w) :=
  fits_room _ (n - used) k (by have := hO.n1; omega) hk w (fun W hW => by rw [hW]; exact room_any h hO)
theorem fits_nil (k : Nat) (hk : k ≤ 4096) (w : World) : Calls Tryz.prog 124 #[.pointer none, .int .i64 k] w (QuietP (.bool false) w) := by
  have := fits_room (.pointer none) 0 k (by omega) hk w (fun W _ => room_nil W)
  have e : fitsB 0 k = false := by
    cases hc : fitsB 0 k
    · rfl
    · have := ((fitsB_iff 0 k).1 hc).2.2
      have := takes_pos k
      omega
  rw [e] at this
  exact this

def zMark : List Value := markCells ⟨0, 0, List.replicate 32 0⟩
theorem zMark_len : zMark.length = 34 := rfl
theorem allocMark (w : World) : (Instr.alloc 156 true (.tuple #[])).run Tryz.prog w = .ok (.pointer (some ⟨w.heap.size, 0, none⟩)) (w.alloc (.cells zMark.toArray 156)) := by kernel_rfl
theorem infoPMark : (Tryz.prog.info? 156).map (·.size) = some 34 := by kernel_rfl
theorem builtPMark : Tryz.prog.built 156 [] = some zMark.toArray := by kernel_rfl
set_option maxRecDepth 100000 in
set_option maxHeartbeats 1000000 in
/-- Head. -/
theorem head_any (h : PrAt g gd first n m used w) : Calls Tryz.prog 119 #[.pointer (some ⟨g, 0, none⟩)] w (AggPost (fun r => r = (markCells m).toArray) w) := by
  have hb1 := (Below.refl w.heap.size w).alloc (Nat.le_refl _) (.cells zMark.toArray 156)
  have hr := (h.below hb1).mark
  obtain ⟨hl, Hl⟩ : ∃ hl : List Value, Hid (hl = markCells m) := ⟨_, rfl⟩
  have hln : hl.length = 34 := by rw [Hl.out]; simp [markCells, h.last]
  rw [← Hl.out] at hr ⊢
  have hvn : Hid (hl.toArray.size = 34) := by rw [List.size_toArray]; exact hln
  have hv1 : Hid (hl.toArray.all (·.oneCell') = true) := by rw [Hl.out]; exact all_oneCell_toArray (mark_one m)
  have hi : Hid ((Tryz.prog.info? 156).map (·.size) = some hl.toArray.size) := by rw [hvn.out]; exact infoPMark
  have hi' : Hid ((Tryz.prog.info? 156).map (·.size) = some hl.length) := by rw [hln]; exact infoPMark
  have hz : Hid (zMark.toArray.size = hl.toArray.size) := by rw [hvn.out]; exact (rfl : zMark.toArray.size = 34)
  have Hr := Lib.hid hr
  clear hr hln
  go_enter Tryz.func119, Tryz.ntmps119
  go_wp2_with (first
    | (refine wpList_alloc_arr rfl 156 rfl _ allocMark ?_)
    | (refine wpList_load_mid rfl 156 _ rfl g 3 rfl hl _ Hr.out Tryz.underlying156 rfl hi'.out ?_)
    | (refine wpList_store_new rfl 156 _ _ rfl w.heap.size rfl hl.toArray rfl rfl 156 _ hi.out hz.out hv1.out ?_))
  refine bodyPost_ret (v := .agg hl.toArray) ?_ rfl ⟨hl.toArray, rfl, rfl, (Below.refl _ _).alloc (Nat.le_refl _) _⟩
  exact results_cell_row (ty := 156) rfl _ _ w.heap.size 156 _ (0, 0) _ rfl (heap_alloc_new _ _) Tryz.underlying156 rfl hi.out
set_option maxRecDepth 100000 in
set_option maxHeartbeats 1000000 in
theorem head_nil (w : World) : Calls Tryz.prog 119 #[.pointer none] w (AggPost (fun r => r = zMark.toArray) w) := by
  obtain ⟨hl, Hl⟩ : ∃ hl : List Value, Hid (hl = zMark) := ⟨_, rfl⟩
  have hln : hl.length = 34 := by rw [Hl.out]; rfl
  rw [← Hl.out]
  have hvn : Hid (hl.toArray.size = 34) := by rw [List.size_toArray]; exact hln
  have hv1 : Hid (hl.toArray.all (·.oneCell') = true) := by rw [Hl.out]; exact all_oneCell_toArray (mark_one _)
  have hi : Hid ((Tryz.prog.info? 156).map (·.size) = some hl.toArray.size) := by rw [hvn.out]; exact infoPMark
  have hz : Hid (zMark.toArray.size = hl.toArray.size) := by rw [hvn.out]; exact (rfl : zMark.toArray.size = 34)
  have hbu : Hid (Tryz.prog.built 156 [] = some hl.toArray) := by rw [Hl.out]; exact builtPMark
  clear hln
  go_enter Tryz.func119, Tryz.ntmps119
  go_wp2_with (first
    | (refine wpList_alloc_arr rfl 156 rfl _ allocMark ?_)
    | (refine wpList_buildZ 156 rfl hl.toArray hbu.out (by rfl) ?_)
    | (refine wpList_store_new rfl 156 _ _ rfl w.heap.size rfl hl.toArray rfl rfl 156 _ hi.out hz.out hv1.out ?_))
  refine bodyPost_ret (v := .agg hl.toArray) ?_ rfl ⟨hl.toArray, rfl, rfl, (Below.refl _ _).alloc (Nat.le_refl _) _⟩
  exact results_cell_row (ty := 156) rfl _ _ w.heap.size 156 _ (0, 0) _ rfl (heap_alloc_new _ _) Tryz.underlying156 rfl hi.out

theorem splice_last (gd first n : Nat) (m : Mk) (used : Nat) (d : List UInt8) (h : m.last.length = 32) (h2 : d.length = 32) :
    (splice (ringCells gd first n m used).toList 5 (d.map cu8)).toArray = ringCells gd first n ⟨m.place, m.num, d⟩ used := by
  simp only [splice, ringCells]
  simp [h2, h]
theorem PrAt.setUsed (h : PrAt g gd first n m used w) (u : Nat) : PrAt g gd first n m u (w.setCell ⟨g, 37, none⟩ (.int .i64 u)) := by
  refine ⟨?_, h.last⟩
  rw [← set_ring gd first n m used u h.last]
  simp [World.setCell, Array.getElem?_modify, h.at_]
def TurnP (g gd first n : Nat) (m : Mk) (used : Nat) (w : World) (e : Ending) (w' : World) : Prop := e = .returned (.tuple #[]) ∧ PrAt g gd first n m used w' ∧ Only (fun j => j = g) w w'
theorem cut_nil (dv : List Value) (w : World) : Calls Tryz.prog 121 #[.pointer none, .agg dv.toArray] w fun e w' => e = .returned (.tuple #[]) ∧ Below w.heap.size w w' := by
  have hb1 := (Below.refl w.heap.size w).alloc (Nat.le_refl _) (.cells dv.toArray 56)
  go_enter Tryz.func121, Tryz.ntmps121
  go_wp2
  first | go_end0 | refine bodyPost_ret (v := .tuple #[]) (results_none rfl _ _ _) rfl ?_
  exact ⟨rfl, hb1⟩
set_option maxRecDepth 100000 in
set_option maxHeartbeats 1000000 in
/-- Cut. -/
theorem cut_any (h : PrAt g gd first n m used w) (d : List UInt8) (hd : d.length = 32) : Calls Tryz.prog 121 #[.pointer (some ⟨g, 0, none⟩), .agg (d.map cu8).toArray] w (TurnP g gd first n ⟨m.place, m.num, d⟩ 0 w) := by
  obtain ⟨dv, Hdv⟩ : ∃ dv : List Value, Hid (dv = d.map cu8) := ⟨_, rfl⟩
  have hdl : dv.length = 32 := by rw [Hdv.out]; simp [hd]
  rw [← Hdv.out]
  have hb1 := (Below.refl w.heap.size w).alloc (Nat.le_refl _) (.cells dv.toArray 56)
  have hbox : (w.alloc (.cells dv.toArray 56)).heap[w.heap.size]? = some (.cells dv.toArray 56 (0, 0)) := heap_alloc_new w _
  have hS := h.below hb1
  have hi : Hid ((Tryz.prog.info? 56).map (·.size) = some dv.toArray.size) := by rw [List.size_toArray, hdl]; exact (by kernel_rfl : (Tryz.prog.info? 56).map (·.size) = some 32)
  have hcells : Hid ((w.alloc (.cells dv.toArray 56)).heap[g]? = some (.cells (ringCells gd first n m used).toList.toArray 189 (0, 0))) := hS.at_
  have hlen : (ringCells gd first n m used).toList.length = 38 := by simp [ringCells, h.last]
  have hsp := Lib.hid (splice_last gd first n m used d h.last hd)
  rw [← Hdv.out] at hsp
  obtain ⟨rc, hrc⟩ : ∃ rc, (ringCells gd first n m used).toList = rc := ⟨_, rfl⟩
  rw [hrc] at hcells hlen hsp
  have hfit : Hid (5 + dv.toArray.size ≤ rc.length) := by show 5 + dv.toArray.size ≤ rc.length; rw [List.size_toArray]; omega
  have hone : Hid (∀ v ∈ dv.toArray.toList, v.oneCell' = true) := fun v hv => by rw [Hdv.out] at hv; obtain ⟨x, _, rfl⟩ := List.mem_map.1 (by simpa using hv); rfl
  have hgl := h.lt
  have Hbox := Lib.hid hbox; have Hb1 := Lib.hid hb1
  clear hrc hlen hdl hbox hS hb1
  go_enter Tryz.func121, Tryz.ntmps121
  go_wp2_with (first
    | (refine wpList_load_row rfl 56 _ rfl w.heap.size rfl 56 dv.toArray (0, 0) _ Hbox.out Tryz.underlying56 rfl hi.out ?_)
    | (refine wpList_store_into rfl 56 _ _ rfl g 5 dv.toArray rfl rfl rc 189 hcells.out hi.out hfit.out hone.out ?_; intro w5 Hs5 Hg5
       have hS5 : PrAt g gd first n ⟨m.place, m.num, d⟩ used w5 := ⟨by rw [← hsp.out]; exact Hs5.out, hd⟩
       have ho5 : Only (fun j => j = g) w w5 := (Only.of_below Hb1.out).trans (Only.of_grown (F := fun j => j = g) Hg5.out (fun j e => by simpa using e.symm)) (fun j hj => .inl hj)
       have c37 := hS5.cell37
       have f37 := hS5.thawed 37
       have hS6 := hS5.setUsed 0
       have ho6 := ho5.trans (Only.of_grown (F := fun j => j = g) (grown_setCell w5 ⟨g, 37, none⟩ (.int .i64 ((0 : Nat) : Int))) (fun j e => by simpa using e.symm)) (fun j hj => .inl hj)
       clear hS5 ho5 Hs5 Hg5))
  first | go_end0 | refine bodyPost_ret (v := .tuple #[]) (results_none rfl _ _ _) rfl ?_
  exact ⟨rfl, hS6, ho6⟩
end
end Go.Proofs.YtjkkbceddbkejaaGreatDoor

/-
  The program's ring: pass.
-/
namespace Go.Proofs.YtjkkbceddbkejaaGreatDoor
open Go.RowKit Sh

theorem built_pmark (m : Mk) (h : m.last.length = 32) : Tryz.prog.built 156 [(0, .int .i64 m.place), (1, .int .u64 m.num), (2, .agg (m.last.map cu8).toArray)] = some (markCells m).toArray := by
  have hu : (Tryz.prog.underlying 156).bind (fun d => match d with | .struct fs => fs.toList.mapM (fun f => (Tryz.prog.info? f.type).map fun i => (f.offset, i.size)) | _ => none) = some [(0, 1), (1, 1), (2, 32)] := by kernel_rfl
  have hin : (Tryz.prog.info? 156).map (fun i => (i.zero, i.size)) = some (some (.agg (markCells ⟨0, 0, List.replicate 32 0⟩).toArray), 34) := by kernel_rfl
  obtain ⟨ti, hti, hz⟩ := Option.map_eq_some_iff.1 hin
  simp only [Prod.mk.injEq] at hz
  unfold Program.built
  rw [hti, Tryz.underlying156]
  rw [Tryz.underlying156] at hu
  simp only [Option.bind_some] at hu
  simp only [hz.1, hu]
  exact fill_three _ (by simp [Value.cells, markCells]) (.int .i64 m.place) (.int .u64 m.num) rfl rfl _ (by simp [h]) _ rfl rfl rfl
section
variable {g gd first n used : Nat} {m : Mk} {w w' : World}
set_option maxRecDepth 100000 in
set_option maxHeartbeats 4000000 in
/-- pass: the head goes behind a record. -/
theorem pass_any (h : PrAt g gd first n m used w) (hO : RingOk first n m used) {b : Nat} {p : List UInt8} {ps : List (List UInt8)} (hr : RecAt b (p :: ps) w) (hbg : b ≠ g) (L cap : Nat) (hL : 0 < L) (hL65 : L ≤ 4096) (k : Nat) (hk : takes k = L) :
    Calls Tryz.prog 134 #[.pointer (some ⟨g, 0, none⟩), .slice (some ⟨b, 0, none⟩) L cap] w (TurnP g gd first n (behind n m k ((p.drop 10).take 32)) (used + L) w) := by
  obtain ⟨n0, n1, f1, pl1, nm1, u1⟩ := hO
  have hmod := Nat.mod_lt (m.place + L) (show 0 < n by omega)
  obtain ⟨Pl, hP⟩ : ∃ Pl : Nat, (m.place + L) % n = Pl := ⟨_, rfl⟩
  obtain ⟨N, hN⟩ : ∃ N : Nat, (m.num + 1) % 18446744073709551616 = N := ⟨_, rfl⟩
  obtain ⟨d, Hd⟩ : ∃ d, Hid (d = (p.drop 10).take 32) := ⟨_, rfl⟩
  have hd : d.length = 32 := by rw [Hd.out]; have := hr.len p (by simp); simp; omega
  have hm2 : behind n m k ((p.drop 10).take 32) = ⟨Pl, N, d⟩ := by unfold behind; rw [hk, hP, hN, Hd.out]
  rw [hm2]
  have hn2 : ¬ n = 0 := by omega
  obtain ⟨U, hU⟩ : ∃ U : Nat, used + L = U := ⟨_, rfl⟩
  have w1 : IntKind.i64.wrap ((used : Int) + (L : Int)) = (U : Int) := by rw [IntWalk.i64_in _ (by omega)]; omega
  have w2 : IntKind.i64.wrap ((m.place : Int) + (L : Int)) = ((m.place + L : Nat) : Int) := by rw [IntWalk.i64_in _ (by omega)]; omega
  have wN : IntKind.u64.wrap ((m.num : Int) + 1) = (N : Int) := by rw [IntKind.wrap_u64, ← hN]; omega
  have w4 : ((m.place : Int) + (L : Int)) % (n : Int) = (Pl : Int) := by
    rw [← hP]
    show _ = ((m.place + L : Nat) : Int) % ((n : Nat) : Int)
    rw [Int.natCast_add]
  have w5 : ((m.place : Int) + (L : Int)).tmod (n : Int) = (Pl : Int) := by rw [Int.tmod_eq_emod_of_nonneg (by omega), w4]
  have hwr := written_any hr L cap hL
  rw [← Hd.out] at hwr
  have hW := Lib.hid (fun (W : World) (hW : RecAt b (p :: ps) W) => by have := written_any hW L cap hL; rw [← Hd.out] at this; exact this)
  obtain ⟨dv, hdv⟩ : ∃ dv : List Value, d.map cu8 = dv := ⟨_, rfl⟩
  have HB := Lib.hid (built_pmark ⟨Pl, N, d⟩ hd)
  rw [hdv] at HB
  have hmk : (markCells ⟨Pl, N, d⟩).length = 34 := by simp [markCells, hd]
  have hsp := Lib.hid (splice_ring gd first n m ⟨Pl, N, d⟩ used h.last hd)
  have hlen : (ringCells gd first n m used).toList.length = 38 := by simp [ringCells, h.last]
  have HI : Hid ((Tryz.prog.info? 156).map (·.size) = some (markCells ⟨Pl, N, d⟩).toArray.size) := by rw [List.size_toArray, hmk]; exact infoPMark
  have Hone : Hid (∀ v ∈ (markCells ⟨Pl, N, d⟩).toArray.toList, v.oneCell' = true) := fun v hv => mark_one ⟨Pl, N, d⟩ v (by simpa using hv)
  have Hfit : Hid (3 + (markCells ⟨Pl, N, d⟩).toArray.size ≤ (ringCells gd first n m used).toList.length) := by
    show 3 + (markCells ⟨Pl, N, d⟩).toArray.size ≤ (ringCells gd first n m used).toList.length
    rw [hlen, List.size_toArray, hmk]; omega
  have hgl := h.lt
  clear hwr hmk hlen
  go_enter Tryz.func134, Tryz.ntmps134
  go_wp2
  refine wp_region_up 25 (PrAt g gd first n m used) (by kernel_rfl) ?_
  have hb2 : Below w.heap.size w { w with drawn := w.drawn + 1 } := ⟨rfl, rfl, rfl, Nat.le_refl _, fun _ _ => rfl⟩
  obtain ⟨wd, hdr⟩ : ∃ wd : World, ({ w with drawn := w.drawn + 1 } : World) = wd := ⟨_, rfl⟩
  rw [hdr] at hb2 ⊢
  clear hdr
  have hS0 := h.below hb2
  have hr2 := hr.below hb2
  refine up_take (i := 0) (v := .pointer (some ⟨g, 0, none⟩)) rfl (by kernel_rfl) (by kernel_rfl) (fun _ _ _ h => h) (Or.inl ⟨by rfl, ?_⟩) hS0 ?_
  · intro w' _; go_simp
  try simp only [List.getElem_toArray, List.getElem_cons_succ, List.getElem_cons_zero, Act.put, List.setIfInBounds_toArray, List.set]
  refine up_take (i := 1) (v := .pointer (some ⟨g, 0, none⟩)) rfl (by kernel_rfl) (by kernel_rfl) (fun _ _ _ h => h) (Or.inl ⟨by rfl, ?_⟩) hS0 ?_
  · intro w' _; go_simp
  try simp only [List.getElem_toArray, List.getElem_cons_succ, List.getElem_cons_zero, Act.put, List.setIfInBounds_toArray, List.set]
  refine up_take (i := 2) (v := .pointer (some ⟨g, 0, none⟩)) rfl (by kernel_rfl) (by kernel_rfl) (fun _ _ _ h => h) (Or.inl ⟨by rfl, ?_⟩) hS0 ?_
  · intro w' _; go_simp
  try simp only [List.getElem_toArray, List.getElem_cons_succ, List.getElem_cons_zero, Act.put, List.setIfInBounds_toArray, List.set]
  refine up_take (i := 3) (v := .pointer (some ⟨g, 3, none⟩)) rfl (by kernel_rfl) (by kernel_rfl) (fun _ _ _ h => h) (Or.inl ⟨by rfl, ?_⟩) hS0 ?_
  · intro w' _; go_simp
  try simp only [List.getElem_toArray, List.getElem_cons_succ, List.getElem_cons_zero, Act.put, List.setIfInBounds_toArray, List.set]
  refine up_take (i := 4) (v := .pointer (some ⟨g, 3, none⟩)) rfl (by kernel_rfl) (by kernel_rfl) (fun _ _ _ h => h) (Or.inl ⟨by rfl, ?_⟩) hS0 ?_
  · intro w' _; go_simp
  try simp only [List.getElem_toArray, List.getElem_cons_succ, List.getElem_cons_zero, Act.put, List.setIfInBounds_toArray, List.set]
  refine up_take (i := 5) (v := (.int .i64 m.place)) rfl (by kernel_rfl) (by kernel_rfl) (fun _ _ _ h => h) (Or.inl ⟨by rfl, ?_⟩) hS0 ?_
  · intro w' hS'
    obtain ⟨c0, c1, c2, c3, c4, c37⟩ := PrAt.cells hS'
    clear hS'
    go_simp
  try simp only [List.getElem_toArray, List.getElem_cons_succ, List.getElem_cons_zero, Act.put, List.setIfInBounds_toArray, List.set]
  refine up_take (i := 6) (v := .slice (some ⟨b, 0, none⟩) L cap) rfl (by kernel_rfl) (by kernel_rfl) (fun _ _ _ h => h) (Or.inl ⟨by rfl, ?_⟩) hS0 ?_
  · intro w' _; go_simp
  try simp only [List.getElem_toArray, List.getElem_cons_succ, List.getElem_cons_zero, Act.put, List.setIfInBounds_toArray, List.set]
  refine up_take (i := 7) (v := (.int .i64 L)) rfl (by kernel_rfl) (by kernel_rfl) (fun _ _ _ h => h) (Or.inl ⟨by rfl, ?_⟩) hS0 ?_
  · intro w' _; go_simp
  try simp only [List.getElem_toArray, List.getElem_cons_succ, List.getElem_cons_zero, Act.put, List.setIfInBounds_toArray, List.set]
  refine up_take (i := 8) (v := (.int .i64 (m.place + L : Nat))) rfl (by kernel_rfl) (by kernel_rfl) (fun _ _ _ h => h) (Or.inl ⟨by rfl, ?_⟩) hS0 ?_
  · intro w' _; go_simp
  try simp only [List.getElem_toArray, List.getElem_cons_succ, List.getElem_cons_zero, Act.put, List.setIfInBounds_toArray, List.set]
  refine up_take (i := 9) (v := .pointer (some ⟨g, 0, none⟩)) rfl (by kernel_rfl) (by kernel_rfl) (fun _ _ _ h => h) (Or.inl ⟨by rfl, ?_⟩) hS0 ?_
  · intro w' _; go_simp
  try simp only [List.getElem_toArray, List.getElem_cons_succ, List.getElem_cons_zero, Act.put, List.setIfInBounds_toArray, List.set]
  refine up_take (i := 10) (v := .pointer (some ⟨g, 0, none⟩)) rfl (by kernel_rfl) (by kernel_rfl) (fun _ _ _ h => h) (Or.inl ⟨by rfl, ?_⟩) hS0 ?_
  · intro w' _; go_simp
  try simp only [List.getElem_toArray, List.getElem_cons_succ, List.getElem_cons_zero, Act.put, List.setIfInBounds_toArray, List.set]
  refine up_take (i := 11) (v := .pointer (some ⟨g, 2, none⟩)) rfl (by kernel_rfl) (by kernel_rfl) (fun _ _ _ h => h) (Or.inl ⟨by rfl, ?_⟩) hS0 ?_
  · intro w' _; go_simp
  try simp only [List.getElem_toArray, List.getElem_cons_succ, List.getElem_cons_zero, Act.put, List.setIfInBounds_toArray, List.set]
  refine up_take (i := 12) (v := (.int .i64 n)) rfl (by kernel_rfl) (by kernel_rfl) (fun _ _ _ h => h) (Or.inl ⟨by rfl, ?_⟩) hS0 ?_
  · intro w' hS'
    obtain ⟨c0, c1, c2, c3, c4, c37⟩ := PrAt.cells hS'
    clear hS'
    go_simp
  try simp only [List.getElem_toArray, List.getElem_cons_succ, List.getElem_cons_zero, Act.put, List.setIfInBounds_toArray, List.set]
  refine up_take (i := 13) (v := (.int .i64 Pl)) rfl (by kernel_rfl) (by kernel_rfl) (fun _ _ _ h => h) (Or.inl ⟨by rfl, ?_⟩) hS0 ?_
  · intro w' _; go_simp
  try simp only [List.getElem_toArray, List.getElem_cons_succ, List.getElem_cons_zero, Act.put, List.setIfInBounds_toArray, List.set]
  refine up_take (i := 14) (v := .pointer (some ⟨g, 0, none⟩)) rfl (by kernel_rfl) (by kernel_rfl) (fun _ _ _ h => h) (Or.inl ⟨by rfl, ?_⟩) hS0 ?_
  · intro w' _; go_simp
  try simp only [List.getElem_toArray, List.getElem_cons_succ, List.getElem_cons_zero, Act.put, List.setIfInBounds_toArray, List.set]
  refine up_take (i := 15) (v := .pointer (some ⟨g, 0, none⟩)) rfl (by kernel_rfl) (by kernel_rfl) (fun _ _ _ h => h) (Or.inl ⟨by rfl, ?_⟩) hS0 ?_
  · intro w' _; go_simp
  try simp only [List.getElem_toArray, List.getElem_cons_succ, List.getElem_cons_zero, Act.put, List.setIfInBounds_toArray, List.set]
  refine up_take (i := 16) (v := .pointer (some ⟨g, 3, none⟩)) rfl (by kernel_rfl) (by kernel_rfl) (fun _ _ _ h => h) (Or.inl ⟨by rfl, ?_⟩) hS0 ?_
  · intro w' _; go_simp
  try simp only [List.getElem_toArray, List.getElem_cons_succ, List.getElem_cons_zero, Act.put, List.setIfInBounds_toArray, List.set]
  refine up_take (i := 17) (v := .pointer (some ⟨g, 4, none⟩)) rfl (by kernel_rfl) (by kernel_rfl) (fun _ _ _ h => h) (Or.inl ⟨by rfl, ?_⟩) hS0 ?_
  · intro w' _; go_simp
  try simp only [List.getElem_toArray, List.getElem_cons_succ, List.getElem_cons_zero, Act.put, List.setIfInBounds_toArray, List.set]
  refine up_take (i := 18) (v := (.int .u64 m.num)) rfl (by kernel_rfl) (by kernel_rfl) (fun _ _ _ h => h) (Or.inl ⟨by rfl, ?_⟩) hS0 ?_
  · intro w' hS'
    obtain ⟨c0, c1, c2, c3, c4, c37⟩ := PrAt.cells hS'
    clear hS'
    go_simp
  try simp only [List.getElem_toArray, List.getElem_cons_succ, List.getElem_cons_zero, Act.put, List.setIfInBounds_toArray, List.set]
  refine up_take (i := 19) (v := (.int .u64 N)) rfl (by kernel_rfl) (by kernel_rfl) (fun _ _ _ h => h) (Or.inl ⟨by rfl, ?_⟩) hS0 ?_
  · intro w' _; go_simp
  try simp only [List.getElem_toArray, List.getElem_cons_succ, List.getElem_cons_zero, Act.put, List.setIfInBounds_toArray, List.set]
  refine up_take (i := 20) (v := .slice (some ⟨b, 0, none⟩) L cap) rfl (by kernel_rfl) (by kernel_rfl) (fun _ _ _ h => h) (Or.inl ⟨by rfl, ?_⟩) hS0 ?_
  · intro w' _; go_simp
  try simp only [List.getElem_toArray, List.getElem_cons_succ, List.getElem_cons_zero, Act.put, List.setIfInBounds_toArray, List.set]
  refine up_one 21 _ rfl (by kernel_rfl) (by decide) (by rfl) (fun K hK => ?_)
  go_simp
  refine (hW.out wd hr2).mono ?_
  rintro e w3 ⟨rv, Hrv, rfl, hb3'⟩
  have hb3 := hb2.trans (hb3'.mono hb2.size)
  have hrv : rv = dv.toArray := by rw [Hrv.out, hdv]
  subst hrv
  clear Hrv
  refine hK _ _ (h.below hb3) ?_
  clear hK K
  try simp only [List.getElem_toArray, List.getElem_cons_succ, List.getElem_cons_zero, Act.put, List.setIfInBounds_toArray, List.set]
  have hS3 := h.below hb3
  refine up_take (i := 22) (v := (.agg (markCells ⟨Pl, N, d⟩).toArray)) rfl (by kernel_rfl) (by kernel_rfl) (fun _ _ _ h => h) (Or.inl ⟨by rfl, ?_⟩) hS3 ?_
  · intro w' _; exact exec_build w' rfl (Eq.trans (congrArg (Program.built _ _) (by simp [Act.eval, Act.put])) HB.out)
  try simp only [List.getElem_toArray, List.getElem_cons_succ, List.getElem_cons_zero, Act.put, List.setIfInBounds_toArray, List.set]
  refine up_take (i := 23) (v := .pointer (some ⟨g, 0, none⟩)) rfl (by kernel_rfl) (by kernel_rfl) (fun _ _ _ h => h) (Or.inl ⟨by rfl, ?_⟩) hS3 ?_
  · intro w' _; go_simp
  try simp only [List.getElem_toArray, List.getElem_cons_succ, List.getElem_cons_zero, Act.put, List.setIfInBounds_toArray, List.set]
  refine up_take (i := 24) (v := .pointer (some ⟨g, 3, none⟩)) rfl (by kernel_rfl) (by kernel_rfl) (fun _ _ _ h => h) (Or.inl ⟨by rfl, ?_⟩) hS3 ?_
  · intro w' _; go_simp
  try simp only [List.getElem_toArray, List.getElem_cons_succ, List.getElem_cons_zero, Act.put, List.setIfInBounds_toArray, List.set]
  refine up_tail ?_
  refine up_last 25 _ rfl (by kernel_rfl) (by decide) (by rfl) (fun K hK => ?_)
  refine wp_store_into 156 _ _ rfl g 3 (markCells ⟨Pl, N, d⟩).toArray rfl rfl (ringCells gd first n m used).toList 189 hS3.at_ HI.out Hfit.out Hone.out ?_
  intro w5 Hs5 Hg5
  refine hK _ _ ?_
  clear hK K
  try simp only [List.getElem_toArray, List.getElem_cons_succ, List.getElem_cons_zero, Act.put, List.setIfInBounds_toArray, List.set]
  refine up_done (by kernel_rfl) ?_ _
  have hS5 : PrAt g gd first n ⟨Pl, N, d⟩ used w5 := ⟨by rw [← hsp.out]; exact Hs5, hd⟩
  have ho5 : Only (fun j => j = g) w w5 := (Only.of_below hb3).trans (Only.of_grown (F := fun j => j = g) Hg5 (fun j e => by simpa using e.symm)) (fun j hj => .inl hj)
  clear Hs5 Hg5 hsp HB HI Hone Hfit
  have c37 := hS5.cell37
  have f37 := hS5.thawed 37
  go_wp2
  have hS6 := hS5.setUsed U
  have ho6 := ho5.trans (Only.of_grown (F := fun j => j = g) (grown_setCell w5 ⟨g, 37, none⟩ (.int .i64 ((U : Nat) : Int))) (fun j e => by simpa using e.symm)) (fun j hj => .inl hj)
  first | go_end0 | refine bodyPost_ret (v := .tuple #[]) (results_none rfl _ _ _) rfl ?_
  rw [hU]
  exact ⟨rfl, hS6, ho6⟩
end
end Go.Proofs.YtjkkbceddbkejaaGreatDoor

/-
  A disk's pages as bytes; the pages of a record on them.
-/
namespace Go.Proofs.YtjkkbceddbkejaaGreatDoor
open Go.RowKit Sh

def unb : Value → UInt8
  | .int _ x => UInt8.ofNat x.toNat
  | _ => 0
theorem unb_cu8 (x : UInt8) : unb (cu8 x) = x := by
  show UInt8.ofNat (bz x).toNat = x
  rw [bz_eq]; simp
def bytesOf (p : List Value) : List UInt8 := p.map unb
theorem bytesOf_cu8 (l : List UInt8) : bytesOf (l.map cu8) = l := by
  unfold bytesOf
  rw [List.map_map]
  exact (List.map_congr_left (fun x _ => unb_cu8 x)).trans (List.map_id l)
theorem BP.bytes {p : List Value} (h : BP p) : (bytesOf p).map cu8 = p ∧ (bytesOf p).length = 64 := by
  obtain ⟨l, hl, rfl⟩ := h
  rw [bytesOf_cu8]; exact ⟨rfl, hl⟩
def imgB (S : St) : List (List UInt8) := S.newest.map bytesOf
theorem imgB_length (S : St) : (imgB S).length = S.firm.length := by rw [imgB, List.length_map, S.newest_length]
theorem imgB_get {S : St} (hB : Byt S) {q : Nat} (hq : q < S.firm.length) : S.newest[q]? = some (((imgB S).getD q []).map cu8) ∧ ((imgB S).getD q []).length = 64 := by
  have hq' : q < S.newest.length := by rw [S.newest_length]; exact hq
  have hb : BP S.newest[q] := flushS_mem _ _ _ hB.1 hB.2 _ (List.getElem_mem hq')
  have e : (imgB S).getD q [] = bytesOf S.newest[q] := by simp [imgB, hq']
  rw [e, hb.bytes.1, hb.bytes.2, List.getElem?_eq_getElem hq']
  exact ⟨rfl, rfl⟩
theorem img_read {S : St} (hB : Byt S) (ho : S.off = false) {q : Nat} (hq : q < S.firm.length) : readOf S (q : Int) = (((imgB S).getD q []).map cu8, 0) := by
  have hq2 : ¬ ((q : Int) < 0 ∨ ((S.firm.length : Nat) : Int) ≤ q) := by omega
  unfold readOf readN reachN
  simp only [S.newest_length, ho, Bool.false_eq_true, if_false, if_neg hq2, if_true, Int.toNat_natCast, List.getD_eq_getElem?_getD]
  rw [(imgB_get hB hq).1, Option.getD_some, List.getD_eq_getElem?_getD]
theorem off_read {S : St} (ho : S.off = true) (i : Int) : readOf S i = (zeroPage, 10) := by
  unfold readOf readN reachN
  simp [ho]
section
variable {S : St} {first n : Nat}
theorem pg_len (hB : Byt S) (hin : first + n ≤ S.firm.length) (hn : 0 < n) (i : Nat) : (pgOf (imgB S) first n i).length = 64 := by
  have := Nat.mod_lt i hn
  exact (imgB_get hB (show first + i % n < S.firm.length by omega)).2
theorem pg_read (hB : Byt S) (ho : S.off = false) (hin : first + n ≤ S.firm.length) (hn : 0 < n) (i : Nat) : readOf S ((first + i % n : Nat) : Int) = ((pgOf (imgB S) first n i).map cu8, 0) := by
  have := Nat.mod_lt i hn
  exact img_read hB ho (show first + i % n < S.firm.length by omega)
end
def recPages (pg : Nat → List UInt8) (p L : Nat) : List (List UInt8) := (List.range L).map fun i => pg (p + i)
theorem recPages_length (pg : Nat → List UInt8) (p L : Nat) : (recPages pg p L).length = L := by simp [recPages]
theorem recPages_rest (pg : Nat → List UInt8) (p k : Nat) : recPages pg p (takes k) = pg p :: rest pg p k := by
  have := takes_pos k
  obtain ⟨T, hT⟩ : ∃ T, takes k = T + 1 := ⟨takes k - 1, by omega⟩
  unfold recPages rest
  rw [hT, Nat.add_sub_cancel, List.range_succ_eq_map, List.map_cons, List.map_map]
  congr 1
  apply List.map_congr_left
  intro i _
  show pg (p + (i + 1)) = _
  rw [Nat.add_comm i 1]
/-- .. of which the first k are there, the others zeros. -/
def midPages (pg : Nat → List UInt8) (p L k : Nat) : List (List UInt8) := (List.range L).map fun i => if i < k then pg (p + i) else List.replicate 64 0
theorem midPages_length (pg : Nat → List UInt8) (p L k : Nat) : (midPages pg p L k).length = L := by simp [midPages]
theorem midPages_zero (pg : Nat → List UInt8) (p L : Nat) : midPages pg p L 0 = List.replicate L (List.replicate 64 0) := by
  apply List.ext_getElem (by rw [midPages_length, List.length_replicate])
  intro i h1 h2
  simp only [midPages, List.getElem_map, List.getElem_range, List.getElem_replicate]
  rw [if_neg (by omega)]
theorem midPages_all (pg : Nat → List UInt8) (p L : Nat) : midPages pg p L L = recPages pg p L := by
  apply List.map_congr_left
  intro i hi
  rw [if_pos (List.mem_range.1 hi)]
theorem midPages_set (pg : Nat → List UInt8) (p L k : Nat) : (midPages pg p L k).set k (pg (p + k)) = midPages pg p L (k + 1) := by
  apply List.ext_getElem (by simp [midPages])
  intro i h1 h2
  simp only [midPages, List.getElem_set, List.getElem_map, List.getElem_range]
  by_cases e : k = i
  · subst e; simp
  · rw [if_neg e]
    by_cases hlt : i < k
    · rw [if_pos hlt, if_pos (by omega)]
    · rw [if_neg hlt, if_neg (by omega)]
theorem midPages_mem {pg : Nat → List UInt8} (h : ∀ i, (pg i).length = 64) (p L k : Nat) : ∀ q ∈ midPages pg p L k, q.length = 64 := fun q hq => by
  obtain ⟨i, _, rfl⟩ := List.mem_map.1 hq
  split
  · exact h _
  · simp
theorem bytes_page {q : List UInt8} (h : q.length = 64) : IsPage (q.map cu8) := ⟨by simp [h], fun v hv => by obtain ⟨x, _, rfl⟩ := List.mem_map.1 hv; rfl⟩
theorem splice_flat {pgs : List (List UInt8)} (hP : ∀ p ∈ pgs, p.length = 64) {k : Nat} (hk : k < pgs.length) {q : List UInt8} (hq : q.length = 64) : splice (pgs.flatten.map cu8) (k * 64) (q.map cu8) = ((pgs.set k q).flatten).map cu8 := by
  have h := splice_page (pgs := pgs.map (List.map cu8)) (fun p hp => by obtain ⟨x, hx, rfl⟩ := List.mem_map.1 hp; exact bytes_page (hP x hx)) k (by simpa using hk) (q.map cu8) (bytes_page hq)
  rw [List.map_flatten, List.map_flatten, List.map_set]
  exact h
end Go.Proofs.YtjkkbceddbkejaaGreatDoor

/-
  The program's ring: read.
-/
namespace Go.Proofs.YtjkkbceddbkejaaGreatDoor
open Go.RowKit Sh Go.Extern.Stop Go.Stop Go.Extern

/-- L pages were read, or the disk is off. -/
def ReadP (pgs : List (List UInt8)) (L : Nat) (off : Bool) (w : World) (e : Ending) (w' : World) : Prop :=
  (off = false ∧ ∃ b, w.heap.size ≤ b ∧ e = .returned (.tuple #[.slice (some ⟨b, 0, none⟩) L L, .nilIface]) ∧ RecAt b pgs w' ∧ Below w.heap.size w w') ∨
  (off = true ∧ ∃ v, e = .returned (.tuple #[.slice none 0 0, v]) ∧ ErrV w' 10 v ∧ Below w.heap.size w w')
structure RdRow (b : Nat) (pgs : List (List UInt8)) (w wr : World) : Prop where
  rec_ : RecAt b pgs wr
  bel : Below w.heap.size w wr
theorem errNil (v : Value) (h : v = .nilIface) (W : World) : (binOp .neq 30 v .nilIface).run Tryz.prog W = .ok (.bool false) W := by subst h; kernel_rfl
section
variable {g gd first n used : Nat} {m : Mk} {S : St} {F : Nat → Prop} {w w' : World}
set_option maxRecDepth 100000 in
set_option maxHeartbeats 4000000 in
/-- read. -/
theorem pread_on (h : PrAt g gd first n m used w) (hO : RingOk first n m used) (hD : PD S F gd w) (hB : Byt S) (ho : S.off = false) (hin : first + n ≤ S.firm.length) (L : Nat) (hL0 : 0 < L) (hL : L ≤ 4096) :
    Calls Tryz.prog 144 #[.pointer (some ⟨g, 0, none⟩), .int .i64 L] w (ReadP (recPages (pgOf (imgB S) first n) m.place L) L false w) := by
  obtain ⟨n0, n1, f1, pl1, nm1, u1⟩ := hO
  have hpl := fun i => pg_len (S := S) (first := first) (n := n) hB hin (by omega) i
  have hpr := fun i => pg_read (S := S) (first := first) (n := n) hB ho hin (by omega) i
  have hgl := h.lt
  have hmk := make_pages L hL w
  have hz0 : (List.replicate L zeroPage).flatten = ((midPages (pgOf (imgB S) first n) m.place L 0).flatten).map cu8 := by
    rw [midPages_zero, List.map_flatten, List.map_replicate]
    rfl
  rw [hz0] at hmk
  obtain ⟨pg, Hpg⟩ : ∃ pg, Hid (pg = pgOf (imgB S) first n) := ⟨_, rfl⟩
  rw [← Hpg.out] at hmk hpl hpr ⊢
  obtain ⟨cs0, Hcs0⟩ : ∃ cs0, Hid (cs0 = ((midPages pg m.place L 0).flatten).map cu8) := ⟨_, rfl⟩
  rw [← Hcs0.out] at hmk
  have hHP := Lib.hid hpl; have hHR := Lib.hid hpr
  clear hpl hpr hz0
  go_enter Tryz.func144, Tryz.ntmps144
  go_wp2
  clear hmk
  have hrow : RdRow w.heap.size (midPages pg m.place L 0) w (w.alloc (.cells cs0.toArray 33)) :=
    ⟨⟨by rw [← Hcs0.out]; exact heap_alloc_new _ _, midPages_mem hHP.out _ _ _⟩, (Below.refl _ _).alloc (Nat.le_refl _) _⟩
  generalize w.alloc (.cells cs0.toArray 33) = wa at hrow ⊢
  obtain ⟨b, hb⟩ : ∃ b, w.heap.size = b := ⟨_, rfl⟩
  rw [hb] at hrow ⊢
  have Hb := Lib.hid hb
  clear hb
  go_loopg [13] L (fun gg i wr => ∃ k : Nat, k ≤ L ∧ gg = L - k ∧ i = .int .i64 k ∧ RdRow b (midPages pg m.place L k) w wr)
  case atStart => exact ⟨0, by omega, rfl, rfl, hrow⟩
  case round =>
    clear hrow
    obtain ⟨k, hk, rfl, rfl, hrow⟩ := hrel
    by_cases hlt : k < L
    · have hlt' : (k : Int) < L := by omega
      have hS0' := h.below hrow.bel
      have hD0' := hD.below hrow.bel
      go_upto_region 5 with (fail)
      refine wp_region_up 13 (fun w' => Below wr.heap.size wr w') (by kernel_rfl) ?_
      have hb2 : Below wr.heap.size wr { wr with drawn := wr.drawn + 1 } := ⟨rfl, rfl, rfl, Nat.le_refl _, fun _ _ => rfl⟩
      obtain ⟨wd, hdr⟩ : ∃ wd : World, ({ wr with drawn := wr.drawn + 1 } : World) = wd := ⟨_, rfl⟩
      rw [hdr] at hb2 ⊢
      clear hdr
      have hOk : RingOk first n m used := ⟨n0, n1, f1, pl1, nm1, u1⟩
      obtain ⟨Q, hQ⟩ : ∃ Q : Nat, first + (m.place + k) % n = Q := ⟨_, rfl⟩
      have hrd := hHR.out (m.place + k)
      rw [hQ] at hrd
      obtain ⟨q, Hq⟩ : ∃ q, Hid (q = pg (m.place + k)) := ⟨_, rfl⟩
      rw [← Hq.out] at hrd
      have hq64 : q.length = 64 := by rw [Hq.out]; exact hHP.out _
      obtain ⟨qv, Hqv⟩ : ∃ qv : List Value, Hid (qv = q.map cu8) := ⟨_, rfl⟩
      rw [← Hqv.out] at hrd
      have hqvl : qv.length = 64 := by rw [Hqv.out, List.length_map, hq64]
      have hqi : Hid ((Tryz.prog.info? 33).map (·.size) = some qv.length) := by rw [hqvl]; exact info64
      have hqi2 : Hid ((Tryz.prog.info? 33).map (·.size) = some qv.toArray.size) := by rw [List.size_toArray, hqvl]; exact info64
      have hqz : Hid (zeros64.size = qv.toArray.size) := by rw [show qv.toArray.size = 64 from by rw [List.size_toArray, hqvl]]; exact (rfl : zeros64.size = 64)
      have hq1 : Hid (qv.toArray.all (·.oneCell') = true) := by rw [Hqv.out]; exact bytes_one _
      have Hsec := Lib.hid (fun W (hW : Below wr.heap.size wr W) => by have := sector_any (hS0'.below hW) hOk k (by omega); rw [hQ] at this; exact this)
      have Hred := Lib.hid (fun W (hW : Below wr.heap.size wr W) => by have := pd_read (hD0'.below hW) (Q : Int); rw [hrd] at this; exact this)
      have HS := Lib.hid hS0'
      clear hrd hQ hS0' hD0' hOk
      refine up_take (i := 0) (v := .pointer (some ⟨g, 0, none⟩)) rfl (by kernel_rfl) (by kernel_rfl) (fun _ _ _ h => h) (Or.inl ⟨by rfl, ?_⟩) hb2 ?_
      · intro w' _; go_simp
      try simp only [List.getElem_toArray, List.getElem_cons_succ, List.getElem_cons_zero, Act.put, List.setIfInBounds_toArray, List.set]
      refine up_take (i := 1) (v := .pointer (some ⟨g, 0, none⟩)) rfl (by kernel_rfl) (by kernel_rfl) (fun _ _ _ h => h) (Or.inl ⟨by rfl, ?_⟩) hb2 ?_
      · intro w' _; go_simp
      try simp only [List.getElem_toArray, List.getElem_cons_succ, List.getElem_cons_zero, Act.put, List.setIfInBounds_toArray, List.set]
      refine up_take (i := 2) (v := .pointer (some ⟨g, 0, none⟩)) rfl (by kernel_rfl) (by kernel_rfl) (fun _ _ _ h => h) (Or.inl ⟨by rfl, ?_⟩) hb2 ?_
      · intro w' _; go_simp
      try simp only [List.getElem_toArray, List.getElem_cons_succ, List.getElem_cons_zero, Act.put, List.setIfInBounds_toArray, List.set]
      refine up_take (i := 3) (v := .pointer (some ⟨gd, 0, none⟩)) rfl (by kernel_rfl) (by kernel_rfl) (fun _ _ _ h => h) (Or.inl ⟨by rfl, ?_⟩) hb2 ?_
      · intro w' hS'
        obtain ⟨c0, _⟩ := PrAt.cells (HS.out.below hS')
        clear hS'
        go_simp
      try simp only [List.getElem_toArray, List.getElem_cons_succ, List.getElem_cons_zero, Act.put, List.setIfInBounds_toArray, List.set]
      refine up_take (i := 4) (v := .pointer (some ⟨g, 0, none⟩)) rfl (by kernel_rfl) (by kernel_rfl) (fun _ _ _ h => h) (Or.inl ⟨by rfl, ?_⟩) hb2 ?_
      · intro w' _; go_simp
      try simp only [List.getElem_toArray, List.getElem_cons_succ, List.getElem_cons_zero, Act.put, List.setIfInBounds_toArray, List.set]
      refine up_take (i := 5) (v := .int .i64 k) rfl (by kernel_rfl) (by kernel_rfl) (fun _ _ _ h => h) (Or.inl ⟨by rfl, ?_⟩) hb2 ?_
      · intro w' _; go_simp
      try simp only [List.getElem_toArray, List.getElem_cons_succ, List.getElem_cons_zero, Act.put, List.setIfInBounds_toArray, List.set]
      refine up_two 6 11 _ _ rfl rfl (by kernel_rfl) (by decide) (by decide) (by rfl) (by rfl) (fun K hK => ?p2) (fun K hK => ?q2)
      case' p2 =>
        go_simp
        refine (Hsec.out _ hb2).mono ?_
        rintro e w7 ⟨rfl, mq, rfl⟩
        have hb3 := hb2.trans (below_drewN wd mq _)
        generalize hwn : wd.drewN mq = ws at *
        refine hK _ _ hb3 ?_
        clear hK K hwn
        try simp only [List.getElem_toArray, List.getElem_cons_succ, List.getElem_cons_zero, Act.put, List.setIfInBounds_toArray, List.set]
        refine up_two 7 11 _ _ rfl rfl (by kernel_rfl) (by decide) (by decide) (by rfl) (by rfl) (fun K hK => ?p1) (fun K hK => ?q1)
        case' p1 =>
          go_simp
          refine (Hred.out _ hb3).mono ?_
          rintro e wt ⟨v, rfl, hE, hbq⟩
          obtain rfl := ErrV.zero hE
          have hb4 := hb3.trans (hbq.mono hb3.size)
          refine hK _ _ hb4 ?_
          clear hK K hE
          try simp only [List.getElem_toArray, List.getElem_cons_succ, List.getElem_cons_zero, Act.put, List.setIfInBounds_toArray, List.set]
          refine up_take (i := 8) (v := .tuple #[.agg qv.toArray, .nilIface]) rfl (by kernel_rfl) (by kernel_rfl) (fun _ _ _ h => h) (Or.inl ⟨by rfl, ?_⟩) hb4 ?_
          · intro w' _; go_simp
          try simp only [List.getElem_toArray, List.getElem_cons_succ, List.getElem_cons_zero, Act.put, List.setIfInBounds_toArray, List.set]
          refine up_take (i := 9) (v := .agg qv.toArray) rfl (by kernel_rfl) (by kernel_rfl) (fun _ _ _ h => h) (Or.inl ⟨by rfl, ?_⟩) hb4 ?_
          · intro w' _; go_simp
          try simp only [List.getElem_toArray, List.getElem_cons_succ, List.getElem_cons_zero, Act.put, List.setIfInBounds_toArray, List.set]
          refine up_take (i := 10) (v := .nilIface) rfl (by kernel_rfl) (by kernel_rfl) (fun _ _ _ h => h) (Or.inl ⟨by rfl, ?_⟩) hb4 ?_
          · intro w' _; go_simp
          try simp only [List.getElem_toArray, List.getElem_cons_succ, List.getElem_cons_zero, Act.put, List.setIfInBounds_toArray, List.set]
          refine up_one 11 _ rfl (by kernel_rfl) (by decide) (by rfl) (fun K hK => ?_)
          refine wp_alloc_arr 33 rfl _ alloc64 ?_
          have hb4' := hb4.alloc hb4.size (.cells zeros64 33)
          obtain ⟨x, hxe⟩ : ∃ x, wt.heap.size = x := ⟨_, rfl⟩
          have hx : (wt.alloc (.cells zeros64 33)).heap[x]? = some (.cells zeros64 33 (0, 0)) := by rw [← hxe]; exact heap_alloc_new _ _
          generalize hwa : wt.alloc (.cells zeros64 33) = wu at *
          rw [hxe]
          clear hwa
          have hxl : wr.heap.size ≤ x := by have := hb4.size; omega
          refine hK _ _ hb4' ?_
          clear hK K
          try simp only [List.getElem_toArray, List.getElem_cons_succ, List.getElem_cons_zero, Act.put, List.setIfInBounds_toArray, List.set]
          refine up_one 12 _ rfl (by kernel_rfl) (by decide) (by rfl) (fun K hK => ?_)
          refine wp_store_row 33 _ _ rfl x qv.toArray rfl rfl 33 zeros64 hx hqi2.out hqz.out hq1.out ?_
          refine hK _ _ (below_setRow hb4' hxl _) ?_
          clear hK K
          try simp only [List.getElem_toArray, List.getElem_cons_succ, List.getElem_cons_zero, Act.put, List.setIfInBounds_toArray, List.set]
          refine up_tail ?_
          refine up_last 13 _ rfl (by kernel_rfl) (by decide) (by rfl) (fun K hK => ?_)
          go_simp
          refine hK _ _ ?_
          clear hK K
          try simp only [List.getElem_toArray, List.getElem_cons_succ, List.getElem_cons_zero, Act.put, List.setIfInBounds_toArray, List.set]
          refine up_done (by kernel_rfl) ?_ _
          have hb5 : Below wr.heap.size wr (wu.setRow x qv.toArray) := below_setRow hb4' hxl _
          have hx5 : (wu.setRow x qv.toArray).heap[x]? = some (.cells qv.toArray 33 (0, 0)) := setRow_heap _ _ _ _ _ _ hx
          clear hx
          generalize wu.setRow x qv.toArray = w5 at hb5 hx5 ⊢
        case' q1 =>
          refine wp_alloc_arr 33 rfl _ alloc64 ?_
          have hb4 := hb3.alloc hb3.size (.cells zeros64 33)
          obtain ⟨x, hxe⟩ : ∃ x, ws.heap.size = x := ⟨_, rfl⟩
          have hx : (ws.alloc (.cells zeros64 33)).heap[x]? = some (.cells zeros64 33 (0, 0)) := by rw [← hxe]; exact heap_alloc_new _ _
          generalize hwa : ws.alloc (.cells zeros64 33) = wt at *
          rw [hxe]
          clear hwa
          have hxl : wr.heap.size ≤ x := by have := hb3.size; omega
          refine hK _ _ hb4 ?_
          clear hK K
          try simp only [List.getElem_toArray, List.getElem_cons_succ, List.getElem_cons_zero, Act.put, List.setIfInBounds_toArray, List.set]
          refine up_one 7 _ rfl (by kernel_rfl) (by decide) (by rfl) (fun K hK => ?_)
          go_simp
          refine (Hred.out _ hb4).mono ?_
          rintro e wu ⟨v, rfl, hE, hbq⟩
          obtain rfl := ErrV.zero hE
          have hb4' := hb4.trans (hbq.mono hb4.size)
          have hx := (hbq.block x (Array.getElem?_eq_some_iff.1 hx).1).trans hx
          refine hK _ _ hb4' ?_
          clear hK K hE
          try simp only [List.getElem_toArray, List.getElem_cons_succ, List.getElem_cons_zero, Act.put, List.setIfInBounds_toArray, List.set]
          refine up_take (i := 8) (v := .tuple #[.agg qv.toArray, .nilIface]) rfl (by kernel_rfl) (by kernel_rfl) (fun _ _ _ h => h) (Or.inl ⟨by rfl, ?_⟩) hb4' ?_
          · intro w' _; go_simp
          try simp only [List.getElem_toArray, List.getElem_cons_succ, List.getElem_cons_zero, Act.put, List.setIfInBounds_toArray, List.set]
          refine up_take (i := 9) (v := .agg qv.toArray) rfl (by kernel_rfl) (by kernel_rfl) (fun _ _ _ h => h) (Or.inl ⟨by rfl, ?_⟩) hb4' ?_
          · intro w' _; go_simp
          try simp only [List.getElem_toArray, List.getElem_cons_succ, List.getElem_cons_zero, Act.put, List.setIfInBounds_toArray, List.set]
          refine up_take (i := 10) (v := .nilIface) rfl (by kernel_rfl) (by kernel_rfl) (fun _ _ _ h => h) (Or.inl ⟨by rfl, ?_⟩) hb4' ?_
          · intro w' _; go_simp
          try simp only [List.getElem_toArray, List.getElem_cons_succ, List.getElem_cons_zero, Act.put, List.setIfInBounds_toArray, List.set]
          refine up_one 12 _ rfl (by kernel_rfl) (by decide) (by rfl) (fun K hK => ?_)
          refine wp_store_row 33 _ _ rfl x qv.toArray rfl rfl 33 zeros64 hx hqi2.out hqz.out hq1.out ?_
          refine hK _ _ (below_setRow hb4' hxl _) ?_
          clear hK K
          try simp only [List.getElem_toArray, List.getElem_cons_succ, List.getElem_cons_zero, Act.put, List.setIfInBounds_toArray, List.set]
          refine up_tail ?_
          refine up_last 13 _ rfl (by kernel_rfl) (by decide) (by rfl) (fun K hK => ?_)
          go_simp
          refine hK _ _ ?_
          clear hK K
          try simp only [List.getElem_toArray, List.getElem_cons_succ, List.getElem_cons_zero, Act.put, List.setIfInBounds_toArray, List.set]
          refine up_done (by kernel_rfl) ?_ _
          have hb5 : Below wr.heap.size wr (wu.setRow x qv.toArray) := below_setRow hb4' hxl _
          have hx5 : (wu.setRow x qv.toArray).heap[x]? = some (.cells qv.toArray 33 (0, 0)) := setRow_heap _ _ _ _ _ _ hx
          clear hx
          generalize wu.setRow x qv.toArray = w5 at hb5 hx5 ⊢
      case' q2 =>
        refine wp_alloc_arr 33 rfl _ alloc64 ?_
        have hb3 := hb2.alloc hb2.size (.cells zeros64 33)
        obtain ⟨x, hxe⟩ : ∃ x, wd.heap.size = x := ⟨_, rfl⟩
        have hx : (wd.alloc (.cells zeros64 33)).heap[x]? = some (.cells zeros64 33 (0, 0)) := by rw [← hxe]; exact heap_alloc_new _ _
        generalize hwa : wd.alloc (.cells zeros64 33) = ws at *
        rw [hxe]
        clear hwa
        have hxl : wr.heap.size ≤ x := by have := hb2.size; omega
        refine hK _ _ hb3 ?_
        clear hK K
        try simp only [List.getElem_toArray, List.getElem_cons_succ, List.getElem_cons_zero, Act.put, List.setIfInBounds_toArray, List.set]
        refine up_one 6 _ rfl (by kernel_rfl) (by decide) (by rfl) (fun K hK => ?_)
        go_simp
        refine (Hsec.out _ hb3).mono ?_
        rintro e w7 ⟨rfl, mq, rfl⟩
        have hb4 := hb3.trans (below_drewN ws mq _)
        have hx : (ws.drewN mq).heap[x]? = some (.cells zeros64 33 (0, 0)) := hx
        generalize hwn : ws.drewN mq = wt at *
        refine hK _ _ hb4 ?_
        clear hK K hwn
        try simp only [List.getElem_toArray, List.getElem_cons_succ, List.getElem_cons_zero, Act.put, List.setIfInBounds_toArray, List.set]
        refine up_one 7 _ rfl (by kernel_rfl) (by decide) (by rfl) (fun K hK => ?_)
        go_simp
        refine (Hred.out _ hb4).mono ?_
        rintro e wu ⟨v, rfl, hE, hbq⟩
        obtain rfl := ErrV.zero hE
        have hb4' := hb4.trans (hbq.mono hb4.size)
        have hx := (hbq.block x (Array.getElem?_eq_some_iff.1 hx).1).trans hx
        refine hK _ _ hb4' ?_
        clear hK K hE
        try simp only [List.getElem_toArray, List.getElem_cons_succ, List.getElem_cons_zero, Act.put, List.setIfInBounds_toArray, List.set]
        refine up_take (i := 8) (v := .tuple #[.agg qv.toArray, .nilIface]) rfl (by kernel_rfl) (by kernel_rfl) (fun _ _ _ h => h) (Or.inl ⟨by rfl, ?_⟩) hb4' ?_
        · intro w' _; go_simp
        try simp only [List.getElem_toArray, List.getElem_cons_succ, List.getElem_cons_zero, Act.put, List.setIfInBounds_toArray, List.set]
        refine up_take (i := 9) (v := .agg qv.toArray) rfl (by kernel_rfl) (by kernel_rfl) (fun _ _ _ h => h) (Or.inl ⟨by rfl, ?_⟩) hb4' ?_
        · intro w' _; go_simp
        try simp only [List.getElem_toArray, List.getElem_cons_succ, List.getElem_cons_zero, Act.put, List.setIfInBounds_toArray, List.set]
        refine up_take (i := 10) (v := .nilIface) rfl (by kernel_rfl) (by kernel_rfl) (fun _ _ _ h => h) (Or.inl ⟨by rfl, ?_⟩) hb4' ?_
        · intro w' _; go_simp
        try simp only [List.getElem_toArray, List.getElem_cons_succ, List.getElem_cons_zero, Act.put, List.setIfInBounds_toArray, List.set]
        refine up_one 12 _ rfl (by kernel_rfl) (by decide) (by rfl) (fun K hK => ?_)
        refine wp_store_row 33 _ _ rfl x qv.toArray rfl rfl 33 zeros64 hx hqi2.out hqz.out hq1.out ?_
        refine hK _ _ (below_setRow hb4' hxl _) ?_
        clear hK K
        try simp only [List.getElem_toArray, List.getElem_cons_succ, List.getElem_cons_zero, Act.put, List.setIfInBounds_toArray, List.set]
        refine up_tail ?_
        refine up_last 13 _ rfl (by kernel_rfl) (by decide) (by rfl) (fun K hK => ?_)
        go_simp
        refine hK _ _ ?_
        clear hK K
        try simp only [List.getElem_toArray, List.getElem_cons_succ, List.getElem_cons_zero, Act.put, List.setIfInBounds_toArray, List.set]
        refine up_done (by kernel_rfl) ?_ _
        have hb5 : Below wr.heap.size wr (wu.setRow x qv.toArray) := below_setRow hb4' hxl _
        have hx5 : (wu.setRow x qv.toArray).heap[x]? = some (.cells qv.toArray 33 (0, 0)) := setRow_heap _ _ _ _ _ _ hx
        clear hx
        generalize wu.setRow x qv.toArray = w5 at hb5 hx5 ⊢
      all_goals
        have hr5 : RdRow b (midPages pg m.place L k) w w5 := ⟨hrow.rec_.of_block (hb5.block b hrow.rec_.lt), by have h1 := hrow.bel; exact h1.trans (hb5.mono h1.size)⟩
        have hcell := Lib.hid (run_loadAt_mid (P := Tryz.prog) w5 x 0 33 qv _ (fun j v hj => by rw [Nat.zero_add, cell_of_row w5 x j _ _ _ hx5]; simpa using hj) Tryz.underlying33 rfl hqi.out)
        have Hat := Lib.hid hr5.rec_.at_
        have hmid : Hid (k * 64 + qv.toArray.size ≤ (((midPages pg m.place L k).flatten).map cu8).length) := by
          show k * 64 + qv.toArray.size ≤ (((midPages pg m.place L k).flatten).map cu8).length
          rw [List.length_map, flat_len hr5.rec_.len, midPages_length, List.size_toArray, hqvl]; omega
        have hone : Hid (∀ v ∈ qv.toArray.toList, v.oneCell' = true) := fun v hv => by rw [Hqv.out] at hv; obtain ⟨y, _, rfl⟩ := List.mem_map.1 (by simpa using hv); rfl
        have hspl : Hid (splice (((midPages pg m.place L k).flatten).map cu8) (k * 64) qv = ((midPages pg m.place L (k + 1)).flatten).map cu8) := by
          rw [Hqv.out, ← midPages_set, ← Hq.out]
          exact splice_flat hr5.rec_.len (by rw [midPages_length]; exact hlt) hq64
        have Hx5 := Lib.hid hr5
        clear hr5 hx5 hb5
        go_wp2_with (first
          | (refine wpList_load_page _ rfl x 0 rfl _ hcell.out (by rfl) ?_)
          | (refine wpList_store_into rfl 33 _ _ rfl b (k * 64) qv.toArray rfl rfl _ 33 Hat.out hqi2.out hmid.out hone.out ?_; intro w6 Hs6 Hg6))
        have hrow6 : RdRow b (midPages pg m.place L (k + 1)) w w6 := ⟨⟨by have := Hs6.out; rw [hspl.out] at this; exact this, midPages_mem hHP.out _ _ _⟩,
          by have h1 := Hx5.out.bel; exact below_of_grown h1 Hg6.out (by have := Hb.out; have := h1.size; omega) (by have := Hb.out; omega)⟩
        clear hcell Hat hmid hone hspl Hs6 Hg6 Hx5
        go_roundg (L - (k + 1))
        case measure => omega
        case rel => exact ⟨k + 1, by omega, rfl, by go_num, hrow6⟩
    · obtain rfl : k = L := by omega
      rw [midPages_all] at hrow
      go_wp2
      first | go_ret2 | (refine bodyPost_ret (v := .tuple #[.slice (some ⟨b, 0, none⟩) k k, .nilIface]) (by simp [results, Tryz.results144, go_sem]) rfl ?_)
      exact .inl ⟨rfl, b, by rw [Hb.out]; exact Nat.le_refl _, rfl, hrow.rec_, hrow.bel⟩
end
end Go.Proofs.YtjkkbceddbkejaaGreatDoor
