/-
  The program's ring: its small functions on a record's pages.
-/
import Derived.Test.YtegdlpllljccgaaDoorJRg
import Derived.Test.YtegdlpllljccgaaDoorJDk
import Derived.Test.YtegdlpllljccgaaDoorJSha
set_option linter.unusedSimpArgs false
set_option linter.unusedVariables false
namespace Go.Proofs.YtegdlpllljccgaaDoor
open Go.RowKit Sh

theorem ret_i64 {a b : Int} (h : a = b) : Ending.returned (.int .i64 a) = .returned (.int .i64 b) := by rw [h]
/-- The pages of a record in a block of their own. -/
structure RecAt (b : Nat) (pgs : List (List UInt8)) (w : World) : Prop where
  at_ : w.heap[b]? = some (.cells (pgs.flatten.map cu8).toArray 63 (0, 0))
  len : ∀ p ∈ pgs, p.length = 64
theorem flat_len : ∀ {pgs : List (List UInt8)}, (∀ p ∈ pgs, p.length = 64) → pgs.flatten.length = pgs.length * 64
  | [], _ => rfl
  | p :: ps, h => by
    rw [List.flatten_cons, List.length_append, h p (by simp), flat_len (fun q hq => h q (by simp [hq])), List.length_cons]; omega
theorem flat_at : ∀ {pgs : List (List UInt8)} {i j : Nat} {p : List UInt8}, (∀ p ∈ pgs, p.length = 64) → pgs[i]? = some p → j < 64 → pgs.flatten[i * 64 + j]? = p[j]?
  | [], _, _, _, _, h, _ => by simp at h
  | q :: ps, 0, j, p, hl, h, hj => by
    obtain rfl : q = p := by simpa using h
    rw [List.flatten_cons, Nat.zero_mul, Nat.zero_add, List.getElem?_append_left (by rw [hl q (by simp)]; exact hj)]
  | q :: ps, i + 1, j, p, hl, h, hj => by
    rw [List.flatten_cons, List.getElem?_append_right (by rw [hl q (by simp)]; omega), hl q (by simp), show (i + 1) * 64 + j - 64 = i * 64 + j from by omega]
    exact flat_at (fun x hx => hl x (by simp [hx])) (by simpa using h) hj
section
variable {b : Nat} {pgs : List (List UInt8)} {w w' : World}
theorem RecAt.lt (h : RecAt b pgs w) : b < w.heap.size := (Array.getElem?_eq_some_iff.1 h.at_).1
theorem RecAt.of_block (h : RecAt b pgs w) (e : w'.heap[b]? = w.heap[b]?) : RecAt b pgs w' := ⟨e.trans h.at_, h.len⟩
theorem RecAt.below (h : RecAt b pgs w) (hb : Below w.heap.size w w') : RecAt b pgs w' := h.of_block (hb.block b h.lt)
theorem RecAt.cell (h : RecAt b pgs w) {i j : Nat} {p : List UInt8} (hi : pgs[i]? = some p) (hj : j < 64) : w.cell? ⟨b, i * 64 + j, none⟩ = some (cu8 (at8 p j)) := by
  have hp : p.length = 64 := h.len p (List.mem_of_getElem? hi)
  rw [cell_of_row w b _ _ _ _ h.at_, List.getElem?_toArray, List.getElem?_map, flat_at h.len hi hj]
  simp [at8, List.getD_eq_getElem?_getD, List.getElem?_eq_getElem (show j < p.length by omega)]
theorem RecAt.thawed (h : RecAt b pgs w) (j : Nat) : w.frozen? ⟨b, j, none⟩ = false := by simp [World.frozen?, h.at_]

theorem plists_any (k : Nat) (hk : k ≤ 4096) (w : World) : Calls Tryd.prog 64 #[.int .i64 k] w fun e w' => e = .returned (.int .i64 ((k + 15) / 16 : Nat)) ∧ w = w' := by
  go_enter Tryd.func64, Tryd.ntmps64
  go_wp2
  go_ret
  exact ⟨ret_i64 (by omega), rfl⟩
theorem psize_any (k : Nat) (hk : k ≤ 4096) (w : World) : Calls Tryd.prog 44 #[.int .i64 k] w fun e w' => e = .returned (.int .i64 (takes k : Nat)) ∧ w = w' := by
  obtain ⟨T, hT⟩ : ∃ T, takes k = T := ⟨_, rfl⟩
  have hT2 : 1 + (k + 15) / 16 + k = T := hT
  rw [hT]
  go_enter Tryd.func44, Tryd.ntmps44
  go_wp2_with (go_at_call 64; refine (plists_any k hk _).mono ?_; rintro e w' ⟨rfl, rfl⟩)
  go_ret
  exact ⟨ret_i64 (by omega), rfl⟩
theorem pcount_any {p : List UInt8} {ps : List (List UInt8)} (h : RecAt b (p :: ps) w) (L cap : Nat) (hL : 0 < L) :
    Calls Tryd.prog 70 #[.slice (some ⟨b, 0, none⟩) L cap] w fun e w' => e = .returned (.int .i64 ((at8 p 9).toNat : Nat)) ∧ w = w' := by
  have c : w.cell? ⟨b, 9, none⟩ = some (.int .u8 ((at8 p 9).toNat : Nat)) := h.cell (i := 0) (j := 9) rfl (by omega)
  have hb := (at8 p 9).toNat_lt
  go_enter Tryd.func70, Tryd.ntmps70
  go_wp2
  go_ret
  exact ⟨rfl, rfl⟩

/-- A number in n bytes, the lowest first. -/
def leN (n x : Nat) : List UInt8 := (List.range n).map fun i => UInt8.ofNat (x / 2 ^ (8 * i))
theorem leN_length (n x : Nat) : (leN n x).length = n := by simp [leN]
theorem leN_succ (n x : Nat) : leN (n + 1) x = leN n x ++ [UInt8.ofNat (x / 2 ^ (8 * n))] := by simp [leN, List.range_succ]
theorem le8_eq (x : Nat) : le8 x = leN 8 x := rfl
theorem le4_eq (x : Nat) : le4 x = leN 4 x := by simp [le4, leN, List.range_succ]
theorem splice_nil (cur : List Value) (o : Nat) (_h : o ≤ cur.length) : splice cur o [] = cur := by simp [splice]
theorem splice_snoc (cur cs : List Value) (o : Nat) (v : Value) (h : o + cs.length < cur.length) : (splice cur o cs).set (o + cs.length) v = splice cur o (cs ++ [v]) := by
  unfold splice
  have h1 : (cur.take o).length = o := by rw [List.length_take]; omega
  rw [List.append_assoc, List.set_append_right _ _ (by rw [h1]; omega), h1, List.set_append_right _ _ (by omega), show o + cs.length - o - cs.length = 0 from by omega]
  rw [List.drop_eq_getElem_cons (show o + cs.length < cur.length from h), List.set_cons_zero, List.length_append, List.length_singleton, ← Nat.add_assoc]
  simp
theorem setCell_row {w : World} {g : Nat} {cs : List Value} {t : TypeId} (h : w.heap[g]? = some (.cells cs.toArray t (0, 0))) (j : Nat) (v : Value) :
    (w.setCell ⟨g, j, none⟩ v).heap[g]? = some (.cells (cs.set j v).toArray t (0, 0)) := by
  simp [World.setCell, Array.getElem?_modify, h]
theorem thawed_row {w : World} {g : Nat} {cs : Array Value} {t : TypeId} (h : w.heap[g]? = some (.cells cs t (0, 0))) (j : Nat) : w.frozen? ⟨g, j, none⟩ = false := by simp [World.frozen?, h]
theorem byteU (m k : Nat) : IntKind.u8.wrap ((m / 2 ^ k : Nat) : Int) = bz (UInt8.ofNat (m / 2 ^ k)) := by
  rw [IntKind.wrap_u8', bz_eq, UInt8.toNat_ofNat']; omega

def PutPost (g : Nat) (cs : List Value) (t : TypeId) (w : World) (e : Ending) (w' : World) : Prop := e = .returned (.tuple #[]) ∧ w'.heap[g]? = some (.cells cs.toArray t (0, 0)) ∧ w.grownBy w' (some g)
set_option maxRecDepth 100000 in
set_option maxHeartbeats 800000 in
/-- put. -/
theorem put_any {g o n cap x : Nat} {cs : List Value} {t : TypeId} (hg : w.heap[g]? = some (.cells cs.toArray t (0, 0))) (hfit : o + n ≤ cs.length) (hn : n ≤ 8) :
    Calls Tryd.prog 80 #[.slice (some ⟨g, o, none⟩) n cap, .int .u64 x] w (PutPost g (splice cs o ((leN n x).map cu8)) t w) := by
  go_enter Tryd.func80, Tryd.ntmps80
  go_wp2
  go_loopg [7] n (fun gg i wr => ∃ k : Nat, k ≤ n ∧ gg = n - k ∧ i = .int .i64 k ∧ wr.heap[g]? = some (.cells (splice cs o ((leN k x).map cu8)).toArray t (0, 0)) ∧ w.grownBy wr (some g))
  case atStart => exact ⟨0, by omega, rfl, rfl, by rw [show (leN 0 x).map cu8 = [] from rfl, splice_nil _ _ (by omega)]; exact hg, grownBy_refl _ _⟩
  case round =>
    obtain ⟨k, hk, rfl, rfl, hR, hG⟩ := hrel
    by_cases hlt : k < n
    · have hlt' : (k : Int) < n := by omega
      have hlen : (splice cs o ((leN k x).map cu8)).length = cs.length := length_splice _ _ _ (by rw [List.length_map, leN_length]; omega)
      have hc : ∃ v, wr.cell? ⟨g, o + k, none⟩ = some v := by
        rw [cell_of_row wr g (o + k) _ _ _ hR]
        exact ⟨_, Array.getElem?_eq_getElem (by rw [List.size_toArray, hlen]; omega)⟩
      obtain ⟨cv, c0⟩ := hc
      have f0 := thawed_row hR (o + k)
      have n1 : (8 * (k : Int)).toNat = 8 * k := by omega
      have hv : IntKind.u8.wrap ((x : Int) / 2 ^ (8 * k)) = bz (UInt8.ofNat (x / 2 ^ (8 * k))) := byteN x (8 * k)
      have hst := setCell_row hR (o + k) (cu8 (UInt8.ofNat (x / 2 ^ (8 * k))))
      have hnx : (splice cs o ((leN k x).map cu8)).set (o + k) (cu8 (UInt8.ofNat (x / 2 ^ (8 * k)))) = splice cs o ((leN (k + 1) x).map cu8) := by
        rw [leN_succ, List.map_append]
        have := splice_snoc cs ((leN k x).map cu8) o (cu8 (UInt8.ofNat (x / 2 ^ (8 * k)))) (by rw [List.length_map, leN_length]; omega)
        rw [List.length_map, leN_length] at this
        exact this
      rw [hnx] at hst
      have hG' := grownBy_trans hG (grown_setCell wr ⟨g, o + k, none⟩ (cu8 (UInt8.ofNat (x / 2 ^ (8 * k)))))
      have Hst := Lib.hid hst; have HG := Lib.hid hG'
      clear hst hG' hnx hlen hR hG hg
      go_wp2
      go_roundg (n - (k + 1))
      case measure => omega
      case rel => exact ⟨k + 1, by omega, rfl, by go_num, Hst.out, HG.out⟩
    · obtain rfl : k = n := by omega
      have HR := Lib.hid hR; clear hR
      go_wp2
      first | go_end0 | refine bodyPost_ret (v := .tuple #[]) (results_none rfl _ _ _) rfl ?_
      exact ⟨rfl, HR.out, hG⟩
theorem numFrom_snoc : ∀ (l : List UInt8) (b : UInt8), numFrom (l ++ [b]) 0 = numFrom l 0 + b.toNat * 256 ^ l.length
  | [], b => by simp [numFrom]
  | a :: l, b => by
    have h := numFrom_snoc l b
    simp only [numFrom, List.drop_zero] at h
    simp only [numFrom, List.drop_zero, List.cons_append, List.foldr_cons, List.length_cons, h, Nat.pow_succ]
    rw [Nat.mul_add, ← Nat.add_assoc]
    congr 1
    rw [Nat.mul_left_comm, Nat.mul_comm (256 ^ l.length) 256]
theorem take_byte {bs : List UInt8} {k : Nat} (h : k < bs.length) : bs.take (k + 1) = bs.take k ++ [at8 bs k] := by
  rw [List.take_succ_eq_append_getElem h]; simp [at8, h]
theorem or_byte {bs : List UInt8} {k : Nat} (hk : k < bs.length) (h8 : bs.length ≤ 8) :
    bits .or .u64 (numFrom (bs.take k) 0 : Nat) (IntKind.u64.wrap (IntKind.u64.wrap (bz (at8 bs k)) * 2 ^ (8 * k))) = (numFrom (bs.take (k + 1)) 0 : Nat) := by
  have hb := (at8 bs k).toNat_lt
  have hl := numFrom_lt (bs.take k) 0
  rw [List.length_take, Nat.sub_zero, Nat.min_eq_left (by omega)] at hl
  have hpk : 256 ^ k = 2 ^ (8 * k) := by rw [Nat.pow_mul]
  have hle : 2 ^ (8 * k) * 256 ≤ 18446744073709551616 := by
    have : 2 ^ (8 * k) * 256 = 2 ^ (8 * k + 8) := by rw [Nat.pow_add]
    rw [this]; exact Nat.le_trans (Nat.pow_le_pow_right (by omega) (by omega : 8 * k + 8 ≤ 64)) (Nat.le_refl _)
  have h0 : 0 < 2 ^ (8 * k) := Nat.pow_pos (by omega)
  have hmul : (at8 bs k).toNat * 2 ^ (8 * k) < 18446744073709551616 := by
    have := Nat.mul_lt_mul_of_pos_right hb h0
    omega
  have e1 : IntKind.u64.wrap (bz (at8 bs k)) = ((at8 bs k).toNat : Int) := by rw [IntKind.wrap_u64, bz_eq]; omega
  have e2 : IntKind.u64.wrap (((at8 bs k).toNat : Int) * 2 ^ (8 * k)) = ((at8 bs k).toNat * 2 ^ (8 * k) : Nat) := by
    have : (((at8 bs k).toNat : Int) * 2 ^ (8 * k)) = ((at8 bs k).toNat * 2 ^ (8 * k) : Nat) := by simp
    rw [this, IntKind.wrap_u64]; omega
  rw [e1, e2, u64_or _ _ (by omega) (by rw [hpk] at hl; omega) (by omega) (by omega), take_byte hk, numFrom_snoc, List.length_take, Nat.min_eq_left (by omega), hpk]
  rw [Int.toNat_natCast, Int.toNat_natCast, Nat.or_comm, Nat.add_comm, ← Nat.shiftLeft_eq, Nat.shiftLeft_add_eq_or_of_lt (by rw [← hpk]; exact hl)]
  try rfl
set_option maxRecDepth 100000 in
set_option maxHeartbeats 800000 in
/-- get. -/
theorem get_any {bs : List UInt8} {n : Nat} (hl : bs.length = n) (hn : n ≤ 8) {g o cap : Nat} (hc : ∀ j, j < n → w.cell? ⟨g, o + j, none⟩ = some (.int .u8 (bz (at8 bs j)))) :
    Calls Tryd.prog 75 #[.slice (some ⟨g, o, none⟩) n cap] w fun e w' => e = .returned (.int .u64 (numFrom bs 0)) ∧ w = w' := by
  go_enter Tryd.func75, Tryd.ntmps75
  go_wp2
  go_loopg [3, 8] n (fun gg v i wx => ∃ k : Nat, k ≤ n ∧ gg = n - k ∧ v = .int .u64 (numFrom (bs.take k) 0) ∧ i = .int .i64 k ∧ wx = w)
  case atStart => exact ⟨0, by omega, rfl, rfl, rfl, rfl⟩
  case round =>
    obtain ⟨k, hk, rfl, rfl, rfl, rfl⟩ := hrel
    by_cases hlt : k < n
    · have hlt' : (k : Int) < n := by omega
      have c0 := hc k hlt
      have n1 : (8 * (k : Int)).toNat = 8 * k := by omega
      have hor := or_byte (bs := bs) (k := k) (by omega) (by omega)
      have Hor := Lib.hid hor; clear hor
      go_wp2
      go_roundg (n - (k + 1))
      case measure => omega
      case rel => exact ⟨k + 1, by omega, rfl, by rw [Hor.out], by go_num, rfl⟩
    · obtain rfl : k = n := by omega
      go_wp2
      go_ret
      exact ⟨by rw [List.take_of_length_le (by omega)]; rfl, rfl⟩

def z10 : List Value := List.replicate 10 (cu8 0)
theorem alloc10 (w : World) : (Instr.alloc 153 true (.tuple #[])).run Tryd.prog w = .ok (.pointer (some ⟨w.heap.size, 0, none⟩)) (w.alloc (.cells z10.toArray 153)) := by kernel_rfl
theorem head_cells (num k : Nat) : (splice (z10.set 0 (cu8 84)) 1 ((leN 8 num).map cu8)).set 9 (cu8 (UInt8.ofNat k)) = (head10 num k).map cu8 := by
  simp [splice, head10, le8, leN, z10, List.range_succ, List.replicate]
theorem bytes_one (l : List UInt8) : (l.map cu8).toArray.all (·.oneCell') = true := all_oneCell_toArray (fun v hv => by obtain ⟨x, _, rfl⟩ := List.mem_map.1 hv; rfl)
set_option maxRecDepth 100000 in
set_option maxHeartbeats 1000000 in
/-- opened. -/
theorem opened_any (num k : Nat) (w : World) :
    Calls Tryd.prog 72 #[.int .u64 num, .int .i64 k] w (AggPost (fun r => r = ((head10 num k).map cu8).toArray) w) := by
  have hb2 : Below w.heap.size w ((w.alloc (.cells z10.toArray 153)).alloc (.cells z10.toArray 153)) := ((Below.refl _ _).alloc (Nat.le_refl _) _).alloc (by simp) _
  have h1 : ((w.alloc (.cells z10.toArray 153)).alloc (.cells z10.toArray 153)).heap[w.heap.size]? = some (.cells z10.toArray 153 (0, 0)) := by
    rw [Below.heap_alloc _ _ _ (by simp)]; exact heap_alloc_new _ _
  have h2 : ((w.alloc (.cells z10.toArray 153)).alloc (.cells z10.toArray 153)).heap[w.heap.size + 1]? = some (.cells z10.toArray 153 (0, 0)) := by
    have := heap_alloc_new (w.alloc (.cells z10.toArray 153)) (.cells z10.toArray 153)
    simpa using this
  go_enter Tryd.func72, Tryd.ntmps72
  go_upto_region 2 with (refine wpList_alloc_arr rfl 153 rfl _ alloc10 ?_)
  try simp only [World.size_alloc]
  generalize (w.alloc (.cells z10.toArray 153)).alloc (.cells z10.toArray 153) = w2 at hb2 h1 h2 ⊢
  obtain ⟨o, ho⟩ : ∃ o, w.heap.size + 1 = o := ⟨_, rfl⟩
  obtain ⟨r, hr⟩ : ∃ r, w.heap.size = r := ⟨_, rfl⟩
  have Ho := Lib.hid ho; have Hr := Lib.hid hr
  rw [ho] at h2 ⊢
  clear ho
  rw [hr] at h1 hb2 ⊢
  clear hr
  have c0 : w2.cell? ⟨o, 0, none⟩ = some (.int .u8 0) := by rw [cell_of_row w2 o 0 _ _ _ h2]; rfl
  have f0 := thawed_row h2 0
  have h3 := setCell_row h2 0 (cu8 84)
  have hro : r ≠ o := by have := Ho.out; have := Hr.out; omega
  have hrn : r < w2.heap.size := (Array.getElem?_eq_some_iff.1 h1).1
  have hg3 : w2.grownBy (w2.setCell ⟨o, 0, none⟩ (cu8 84)) (some o) := grown_setCell _ _ _
  have H3 := Lib.hid h3; have H1 := Lib.hid h1; have H2 := Lib.hid h2; have Hb2 := Lib.hid hb2
  clear h3 h1 h2 hb2
  go_wp2_with (go_at_call 80; refine (put_any (x := num) (cs := z10.set 0 (cu8 84)) (t := 153) H3.out (by simp [z10]) (by omega)).mono ?_)
  rintro e w4 ⟨rfl, h4, hg4⟩
  have hg14 := grownBy_trans hg3 hg4
  have hlen : (splice (z10.set 0 (cu8 84)) 1 ((leN 8 num).map cu8)).length = 10 := by rw [length_splice _ _ _ (by rw [List.length_map, leN_length]; simp [z10])]; simp [z10]
  obtain ⟨cv, c9⟩ : ∃ v, w4.cell? ⟨o, 9, none⟩ = some v := by
    rw [cell_of_row w4 o 9 _ _ _ h4]
    exact ⟨_, Array.getElem?_eq_getElem (by rw [List.size_toArray, hlen]; omega)⟩
  have f9 := thawed_row h4 9
  have h5 := setCell_row h4 9 (cu8 (UInt8.ofNat k))
  rw [head_cells] at h5
  have hk8 : IntKind.u8.wrap (k : Int) = bz (UInt8.ofNat k) := by have := byteU k 0; simpa using this
  have hg15 := grownBy_trans hg14 (grown_setCell w4 ⟨o, 9, none⟩ (cu8 (UInt8.ofNat k)))
  have h15 := (hg15.block r hrn (by simpa using hro)).trans H1.out
  have hb5 : Below r w (w4.setCell ⟨o, 9, none⟩ (cu8 (UInt8.ofNat k))) := below_of_grown Hb2.out hg15 (by omega) (by have := Ho.out; have := Hr.out; omega)
  have H5 := Lib.hid h5; have H15 := Lib.hid h15; have Hb5 := Lib.hid hb5
  clear h4 h5 h15 hb5 hg3 hg4 hg14 hg15 hlen f0 c0
  obtain ⟨hv, Hv⟩ : ∃ hv : Array Value, Hid (hv = ((head10 num k).map cu8).toArray) := ⟨_, rfl⟩
  have hvn : Hid (hv.size = 10) := by rw [Hv.out, List.size_toArray, List.length_map]; exact head10_length num k
  have hv1 : Hid (hv.all (·.oneCell') = true) := by rw [Hv.out]; exact bytes_one _
  have hi10 : Hid ((Tryd.prog.info? 153).map (·.size) = some hv.size) := by rw [hvn.out]; exact (by kernel_rfl : (Tryd.prog.info? 153).map (·.size) = some 10)
  have hz10 : Hid (z10.toArray.size = hv.size) := by rw [hvn.out]; exact (rfl : z10.toArray.size = 10)
  have Hv5 : Hid ((w4.setCell ⟨o, 9, none⟩ (cu8 (UInt8.ofNat k))).heap[o]? = some (.cells hv 153 (0, 0))) := by rw [Hv.out]; exact H5.out
  go_wp2_with (first
    | (refine wpList_load_row rfl 153 _ rfl o rfl 153 hv (0, 0) _ Hv5.out Tryd.underlying153 rfl hi10.out ?_)
    | (refine wpList_store_row rfl 153 _ _ rfl r hv rfl rfl 153 z10.toArray H15.out hi10.out hz10.out hv1.out ?_))
  refine bodyPost_ret (v := .agg hv) ?_ rfl ⟨hv, Hv, rfl, by rw [Hr.out]; exact below_setRow Hb5.out (Nat.le_refl _) _⟩
  exact results_cell_row (ty := 153) rfl _ _ r 153 _ (0, 0) _ rfl (setRow_heap _ _ _ _ _ _ H15.out) Tryd.underlying153 rfl hi10.out

def z32 : List Value := List.replicate 32 (cu8 0)
theorem alloc32 (w : World) : (Instr.alloc 23 true (.tuple #[])).run Tryd.prog w = .ok (.pointer (some ⟨w.heap.size, 0, none⟩)) (w.alloc (.cells z32.toArray 23)) := by kernel_rfl
theorem RecAt.range (h : RecAt b pgs w) {i : Nat} {p : List UInt8} (hi : pgs[i]? = some p) (j n : Nat) (hj : j + n ≤ 64) : w.rangeAt b (i * 64 + j) (((p.drop j).take n).map cu8) := fun k v hk => by
  have hp : p.length = 64 := h.len p (List.mem_of_getElem? hi)
  rw [List.getElem?_map] at hk
  have hkn : k < n := by
    rcases Nat.lt_or_ge k n with h7 | h7
    · exact h7
    · rw [List.getElem?_eq_none (by simp; omega)] at hk; simp at hk
  rw [List.getElem?_take_of_lt hkn, List.getElem?_drop, List.getElem?_eq_getElem (show j + k < p.length by omega), Option.map_some] at hk
  rw [show i * 64 + j + k = i * 64 + (j + k) from by omega, h.cell hi (by omega), ← hk]
  simp [at8, List.getElem?_eq_getElem (show j + k < p.length by omega)]
set_option maxRecDepth 100000 in
set_option maxHeartbeats 1000000 in
/-- opening: the first ten bytes of the first page. -/
theorem opening_any {p : List UInt8} {ps : List (List UInt8)} (h : RecAt b (p :: ps) w) (L cap : Nat) (hL : 0 < L) :
    Calls Tryd.prog 71 #[.slice (some ⟨b, 0, none⟩) L cap] w (AggPost (fun r => r = ((p.take 10).map cu8).toArray) w) := by
  have hb1 := (Below.refl w.heap.size w).alloc (Nat.le_refl _) (.cells z10.toArray 153)
  have hp : p.length = 64 := h.len p (by simp)
  have hS := h.below hb1
  have hr := hS.range (i := 0) (p := p) rfl 0 10 (by omega)
  rw [Nat.zero_mul, List.drop_zero] at hr
  obtain ⟨hl, Hl⟩ : ∃ hl : List Value, Hid (hl = (p.take 10).map cu8) := ⟨_, rfl⟩
  rw [← Hl.out] at hr
  have hln : hl.length = 10 := by rw [Hl.out]; simp; omega
  have hvn : Hid (hl.toArray.size = 10) := by rw [List.size_toArray]; exact hln
  have hv1 : Hid (hl.toArray.all (·.oneCell') = true) := by rw [Hl.out]; exact bytes_one _
  have hi10 : Hid ((Tryd.prog.info? 153).map (·.size) = some hl.toArray.size) := by rw [hvn.out]; exact (by kernel_rfl : (Tryd.prog.info? 153).map (·.size) = some 10)
  have hi10' : Hid ((Tryd.prog.info? 153).map (·.size) = some hl.length) := by rw [hln]; exact (by kernel_rfl : (Tryd.prog.info? 153).map (·.size) = some 10)
  have hz10 : Hid (z10.toArray.size = hl.toArray.size) := by rw [hvn.out]; exact (rfl : z10.toArray.size = 10)
  have s3 : ∀ w : World, (Instr.arrayAt 153 (.slice (some ⟨b, 0, none⟩) 10 64)).run Tryd.prog w = .ok (.pointer (some ⟨b, 0, none⟩)) w := fun w => by kernel_rfl
  have Hr := Lib.hid hr
  clear hr hln hp
  go_enter Tryd.func71, Tryd.ntmps71
  go_wp2_with (first
    | (refine wpList_alloc_arr rfl 153 rfl _ alloc10 ?_)
    | (refine wpList_load_mid rfl 153 _ rfl b (0 + 0) rfl hl _ Hr.out Tryd.underlying153 rfl hi10'.out ?_)
    | (refine wpList_store_new rfl 153 _ _ rfl w.heap.size rfl hl.toArray rfl rfl 153 _ hi10.out hz10.out hv1.out ?_))
  refine bodyPost_ret (v := .agg hl.toArray) ?_ rfl ⟨hl.toArray, by rw [Hl.out]; exact rfl, rfl, (Below.refl _ _).alloc (Nat.le_refl _) _⟩
  exact results_cell_row (ty := 153) rfl _ _ w.heap.size 153 _ (0, 0) _ rfl (heap_alloc_new _ _) Tryd.underlying153 rfl hi10.out
set_option maxRecDepth 100000 in
set_option maxHeartbeats 1000000 in
/-- written: the 32 bytes from place ten of the first page on. -/
theorem written_any {p : List UInt8} {ps : List (List UInt8)} (h : RecAt b (p :: ps) w) (L cap : Nat) (hL : 0 < L) :
    Calls Tryd.prog 73 #[.slice (some ⟨b, 0, none⟩) L cap] w (AggPost (fun r => r = (((p.drop 10).take 32).map cu8).toArray) w) := by
  have hb1 := (Below.refl w.heap.size w).alloc (Nat.le_refl _) (.cells z32.toArray 23)
  have hp : p.length = 64 := h.len p (by simp)
  have hS := h.below hb1
  have hr := hS.range (i := 0) (p := p) rfl 10 32 (by omega)
  rw [Nat.zero_mul] at hr
  obtain ⟨hl, Hl⟩ : ∃ hl : List Value, Hid (hl = ((p.drop 10).take 32).map cu8) := ⟨_, rfl⟩
  rw [← Hl.out] at hr
  have hln : hl.length = 32 := by rw [Hl.out]; simp; omega
  have hvn : Hid (hl.toArray.size = 32) := by rw [List.size_toArray]; exact hln
  have hv1 : Hid (hl.toArray.all (·.oneCell') = true) := by rw [Hl.out]; exact bytes_one _
  have hi10 : Hid ((Tryd.prog.info? 23).map (·.size) = some hl.toArray.size) := by rw [hvn.out]; exact (by kernel_rfl : (Tryd.prog.info? 23).map (·.size) = some 32)
  have hi10' : Hid ((Tryd.prog.info? 23).map (·.size) = some hl.length) := by rw [hln]; exact (by kernel_rfl : (Tryd.prog.info? 23).map (·.size) = some 32)
  have hz10 : Hid (z32.toArray.size = hl.toArray.size) := by rw [hvn.out]; exact (rfl : z32.toArray.size = 32)
  have s3 : ∀ w : World, (Instr.arrayAt 23 (.slice (some ⟨b, 10, none⟩) 32 54)).run Tryd.prog w = .ok (.pointer (some ⟨b, 10, none⟩)) w := fun w => by kernel_rfl
  have Hr := Lib.hid hr
  clear hr hln hp
  go_enter Tryd.func73, Tryd.ntmps73
  go_wp2_with (first
    | (refine wpList_alloc_arr rfl 23 rfl _ alloc32 ?_)
    | (refine wpList_load_mid rfl 23 _ rfl b (0 + 10) rfl hl _ Hr.out Tryd.underlying23 rfl hi10'.out ?_)
    | (refine wpList_store_new rfl 23 _ _ rfl w.heap.size rfl hl.toArray rfl rfl 23 _ hi10.out hz10.out hv1.out ?_))
  refine bodyPost_ret (v := .agg hl.toArray) ?_ rfl ⟨hl.toArray, by rw [Hl.out]; exact rfl, rfl, (Below.refl _ _).alloc (Nat.le_refl _) _⟩
  exact results_cell_row (ty := 23) rfl _ _ w.heap.size 23 _ (0, 0) _ rfl (heap_alloc_new _ _) Tryd.underlying23 rfl hi10.out
/-- A part of an array of one-cell elements that lies in memory. -/
theorem run_sliceArr {P : Program} (T E : TypeId) (n : Nat) (hT : P.underlying T = some (.array n E)) (hs : (P.info? E).map (·.size) = some 1) (b o lo hi : Nat) (h1 : lo ≤ hi) (h2 : hi ≤ n) (h3 : lo < n) (w : World) :
    (Instr.sliceAt T (.pointer (some ⟨b, o, none⟩)) (some (.int .i64 (lo : Int))) (some (.int .i64 (hi : Int))) none).run P w = .ok (.slice (some ⟨b, o + lo, none⟩) (hi - lo) (n - lo)) w := by
  have hE : P.elem T = E := by simp [Program.elem, hT]
  have hn : P.arrayLen T = n := by simp [Program.arrayLen, hT]
  have hsz : ∀ w : World, (sizeOf E).run P w = .ok 1 w := fun w => by
    cases hq : P.info? E with
    | none => simp [hq] at hs
    | some i =>
      have hi : i.size = 1 := by simpa [hq] using hs
      simp [sizeOf, typeInfo, hq, hi]
  have hadd : (⟨b, o, none⟩ : Addr).add lo = ⟨b, o + lo, none⟩ := by unfold Addr.add; split <;> simp_all
  rw [run_sliceAt_array_lh (ht := by rw [hE, hn]; exact hT) (h0 := by omega) (h1 := by omega) (h2 := by rw [hn]; omega), hn, hE, hsz w]
  simp only [Result.andThen, slicedAt, Int.toNat_natCast, Nat.mul_one]
  rw [if_neg (by omega), hadd]
set_option maxRecDepth 100000 in
set_option maxHeartbeats 1000000 in
/-- number: where the page number of change i stands. -/
theorem pnumber_any (L cap i : Nat) (hL : 1 + i / 16 < L) (hi : i ≤ 4096) (w : World) :
    Calls Tryd.prog 76 #[.slice (some ⟨b, 0, none⟩) L cap, .int .i64 i] w fun e w' => e = .returned (.slice (some ⟨b, (1 + i / 16) * 64 + 4 * (i % 16), none⟩) 4 (64 - 4 * (i % 16))) ∧ w = w' := by
  have hsl : ∀ W : World, (Instr.sliceAt 63 (.pointer (some ⟨b, (1 + i / 16) * 64, none⟩)) (some (.int .i64 ((i : Int) % 16 * 4))) (some (.int .i64 ((i : Int) % 16 * 4 + 4))) none).run Tryd.prog W = .ok (.slice (some ⟨b, (1 + i / 16) * 64 + 4 * (i % 16), none⟩) 4 (64 - 4 * (i % 16))) W := fun W => by
    have e1 : (i : Int) % 16 * 4 = ((4 * (i % 16) : Nat) : Int) := by omega
    have e2 : ((4 * (i % 16) : Nat) : Int) + 4 = ((4 * (i % 16) + 4 : Nat) : Int) := by omega
    rw [e1, e2, run_sliceArr 63 5 64 Tryd.underlying63 (by kernel_rfl) b _ _ _ (by omega) (by omega) (by omega), Nat.add_sub_cancel_left]
  go_enter Tryd.func76, Tryd.ntmps76
  go_wp2
  go_ret
  exact ⟨rfl, rfl⟩
end
end Go.Proofs.YtegdlpllljccgaaDoor
