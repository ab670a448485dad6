/-
  Changes in memory; the program's ring: changes.
-/
import Derived.Test.YtegdlpllljccgaaDoorPrStand
set_option linter.unusedSimpArgs false
set_option linter.unusedVariables false
namespace Go.Proofs.YtegdlpllljccgaaDoor
open Go.RowKit Sh

theorem splice_rows (s : Nat) : ∀ {pgs : List (List Value)} (_ : ∀ p ∈ pgs, p.length = s) (k : Nat) (_ : k < pgs.length) (p : List Value) (_ : p.length = s), splice pgs.flatten (k * s) p = (pgs.set k p).flatten
  | [], _, k, hk, _, _ => by simp at hk
  | q :: r, hP, 0, _, p, hp => by
    have hq := hP q (by simp)
    simp only [splice, Nat.zero_mul, Nat.zero_add, List.flatten_cons, List.set_cons_zero, List.take_zero, List.nil_append]
    rw [hp, ← hq, List.drop_left]
  | q :: r, hP, k + 1, hk, p, hp => by
    have hq := hP q (by simp)
    have := splice_rows s (pgs := r) (fun x hx => hP x (by simp [hx])) k (by simpa using hk) p hp
    simp only [splice] at this
    simp only [splice, List.flatten_cons, List.set_cons_succ]
    rw [show (k + 1) * s = q.length + k * s by rw [hq, Nat.succ_mul]; omega, List.take_length_add_append, show q.length + k * s + p.length = q.length + (k * s + p.length) by omega, List.drop_length_add_append, ← this]
    simp only [List.append_assoc]
theorem rows_len (s : Nat) : ∀ {pgs : List (List Value)}, (∀ p ∈ pgs, p.length = s) → pgs.flatten.length = pgs.length * s
  | [], _ => by simp
  | p :: ps, h => by
    rw [List.flatten_cons, List.length_append, h p (by simp), rows_len s (fun q hq => h q (by simp [hq])), List.length_cons, Nat.succ_mul]; omega
theorem made_rows (zc : List Value) (s : Nat) (hs : zc.length = s) (h0 : 0 < s) (n : Nat) : madeCells zc.toArray (n * s) = (List.replicate n zc).flatten.toArray := by
  have hP : ∀ p ∈ List.replicate n zc, p.length = s := fun p hp => by rw [(List.mem_replicate.1 hp).2]; exact hs
  apply Array.ext
  · show (madeCells zc.toArray (n * s)).size = (List.replicate n zc).flatten.length
    rw [rows_len s hP, List.length_replicate]; simp [madeCells]
  · intro i h1 h2
    have hi : i < n * s := by simpa [madeCells] using h1
    have hm := Nat.mod_lt i h0
    have hd : i / s < n := Nat.div_lt_of_lt_mul (by rw [Nat.mul_comm]; exact hi)
    have e := flat_getM s hP (i / s) zc (by rw [List.getElem?_replicate, if_pos hd]) (i % s) hm
    rw [Nat.mul_comm, Nat.div_add_mod] at e
    have hz : i % zc.toArray.size < zc.toArray.size := by rw [List.size_toArray, hs]; exact hm
    simp only [madeCells, Array.getElem_map, Array.getElem_range, List.getElem_toArray]
    rw [getElem!_pos zc.toArray (i % zc.toArray.size) hz]
    have e2 : (List.replicate n zc).flatten[i]? = some ((List.replicate n zc).flatten[i]'(by simpa using h2)) := List.getElem?_eq_getElem _
    rw [e2] at e
    have e3 : zc[i % s]? = some (zc[i % s]'(by omega)) := List.getElem?_eq_getElem _
    rw [e3] at e
    simp only [List.getElem_toArray, List.size_toArray, hs]
    exact (Option.some.inj e).symm
/-- The first k are there, the others are z. -/
def midL {α : Type} (f : Nat → α) (z : α) (n k : Nat) : List α := (List.range n).map fun i => if i < k then f i else z
section
variable {α : Type} (f : Nat → α) (z : α) (n k : Nat)
theorem midL_length : (midL f z n k).length = n := by simp [midL]
theorem midL_zero : midL f z n 0 = List.replicate n z := by
  apply List.ext_getElem (by rw [midL_length, List.length_replicate])
  intro i h1 h2
  simp only [midL, List.getElem_map, List.getElem_range, List.getElem_replicate]
  rw [if_neg (by omega)]
theorem midL_all : midL f z n n = (List.range n).map f := by
  apply List.map_congr_left
  intro i hi
  rw [if_pos (List.mem_range.1 hi)]
theorem midL_set : (midL f z n k).set k (f k) = midL f z n (k + 1) := by
  apply List.ext_getElem (by simp [midL])
  intro i h1 h2
  simp only [midL, List.getElem_set, List.getElem_map, List.getElem_range]
  by_cases e : k = i
  · subst e; simp
  · rw [if_neg e]
    by_cases hlt : i < k
    · rw [if_pos hlt, if_pos (by omega)]
    · rw [if_neg hlt, if_neg (by omega)]
theorem midL_mem {P : α → Prop} (hf : ∀ i, P (f i)) (hz : P z) : ∀ q ∈ midL f z n k, P q := fun q hq => by
  obtain ⟨i, _, rfl⟩ := List.mem_map.1 hq
  split
  · exact hf _
  · exact hz
end

def chgC (c : Chg) : List Value := .int .i64 c.at_ :: c.what.map cu8
def zChg : List Value := .int .i64 0 :: zeroPage
theorem zChg_len : zChg.length = 65 := rfl
theorem chgC_len {c : Chg} (h : c.what.length = 64) : (chgC c).length = 65 := by simp [chgC, h]
theorem chgC_one (c : Chg) : ∀ v ∈ chgC c, v.oneCell' = true := fun v hv => by
  simp only [chgC, List.mem_cons, List.mem_map] at hv
  rcases hv with rfl | ⟨x, _, rfl⟩ <;> rfl
/-- Changes in a row; its block lies below N. -/
def Chgs (N : Nat) (w : World) (bp : Option Addr) (l : List Chg) : Prop := l = [] ∨ ∃ b, bp = some ⟨b, 0, none⟩ ∧ b < N ∧ ∀ i c, l[i]? = some c → w.rangeAt b (i * 65) (chgC c)
theorem Chgs.below {N : Nat} {w w' : World} {bp : Option Addr} {l : List Chg} (h : Chgs N w bp l) (hb : Below N w w') : Chgs N w' bp l :=
  h.imp id fun ⟨b, e, hN, hr⟩ => ⟨b, e, hN, fun i c hi j v hj => (hb.cell (p := ⟨b, _, none⟩) hN).trans (hr i c hi j v hj)⟩
theorem Chgs.mono {N M : Nat} {w : World} {bp : Option Addr} {l : List Chg} (h : Chgs N w bp l) (hM : N ≤ M) : Chgs M w bp l :=
  h.imp id fun ⟨b, e, hN, hr⟩ => ⟨b, e, Nat.lt_of_lt_of_le hN hM, hr⟩
theorem chgs_of_row {w : World} {b : Nat} {t : TypeId} {l : List Chg} (hl : ∀ c ∈ l, c.what.length = 64) (h : w.heap[b]? = some (.cells ((l.map chgC).flatten).toArray t (0, 0))) : Chgs w.heap.size w (some ⟨b, 0, none⟩) l :=
  .inr ⟨b, rfl, (Array.getElem?_eq_some_iff.1 h).1, fun i c hi j v hj => by
    have h65 := chgC_len (hl c (List.mem_of_getElem? hi))
    have hj65 : j < 65 := by rw [← h65]; exact (List.getElem?_eq_some_iff.1 hj).1
    rw [cell_of_row w b _ _ _ _ h, List.getElem?_toArray]
    have := flat_getM 65 (pgs := l.map chgC) (fun p hp => by obtain ⟨x, hx, rfl⟩ := List.mem_map.1 hp; exact chgC_len (hl x hx)) i (chgC c) (by rw [List.getElem?_map, hi]; rfl) j hj65
    rw [this, hj]⟩

theorem infoChg : (Tryd.prog.info? 91).map (fun i => (i.zero, i.size, i.bytes)) = some (some (.agg zChg.toArray), 65, 72) := by kernel_rfl
theorem infoChg65 : (Tryd.prog.info? 91).map (·.size) = some 65 := by kernel_rfl
theorem built_chg (a : Int) (p : List Value) (hp : IsPage p) : Tryd.prog.built 91 [(0, .int .i64 a), (1, .agg p.toArray)] = some (.int .i64 a :: p).toArray := by
  have hu : (Tryd.prog.underlying 91).bind (fun d => match d with | .struct fs => fs.toList.mapM (fun f => (Tryd.prog.info? f.type).map fun i => (f.offset, i.size)) | _ => none) = some [(0, 1), (1, 64)] := by kernel_rfl
  obtain ⟨ti, hti, hz⟩ := Option.map_eq_some_iff.1 infoChg
  simp only [Prod.mk.injEq] at hz
  unfold Program.built
  rw [hti, Tryd.underlying91]
  rw [Tryd.underlying91] at hu
  simp only [Option.bind_some] at hu
  simp only [hz.1, hu]
  exact fill_two _ (by simp [Value.cells, zChg, zeroPage]) (.int .i64 a) rfl p hp.1 _ rfl rfl
theorem make_chgs (n : Nat) (hn : n ≤ 4096) (w : World) :
    (Instr.makeSlice 50 (.int .i64 (n : Int)) (.int .i64 (n : Int))).run Tryd.prog w = .ok (.slice (some ⟨w.heap.size, 0, none⟩) n n) (w.alloc (.cells (List.replicate n zChg).flatten.toArray 91)) := by
  obtain ⟨i, hi, hzz⟩ := Option.map_eq_some_iff.1 infoChg
  simp only [Prod.mk.injEq] at hzz
  obtain ⟨hz, hs, hb⟩ := hzz
  have h := run_make (P := Tryd.prog) w 50 91 i (.agg zChg.toArray) Tryd.underlying50 hi hz .i64 .i64 n n (by omega) (Int.le_refl _) (by rw [hb]; omega) (by omega)
  rw [hs] at h
  have e : madeCells (Value.agg zChg.toArray).cells (n * 65) = (List.replicate n zChg).flatten.toArray := made_rows zChg 65 zChg_len (by omega) n
  rw [h, Int.toNat_natCast, e]

theorem num4_four (p : List UInt8) (o : Nat) : numFrom [at8 p o, at8 p (o + 1), at8 p (o + 2), at8 p (o + 3)] 0 = num4 p o := by
  simp [numFrom, num4]; omega
theorem num4_lt (p : List UInt8) (o : Nat) : num4 p o < 4294967296 := by
  have h0 := (at8 p o).toNat_lt; have h1 := (at8 p (o + 1)).toNat_lt; have h2 := (at8 p (o + 2)).toNat_lt; have h3 := (at8 p (o + 3)).toNat_lt
  unfold num4; omega
structure CgRow (b bl : Nat) (pgs : List (List UInt8)) (rows : List (List Value)) (w wr : World) : Prop where
  rec_ : RecAt b pgs wr
  row : wr.heap[bl]? = some (.cells rows.flatten.toArray 91 (0, 0))
  bel : Below w.heap.size w wr
def ChangesP (l : List Chg) (w : World) (e : Ending) (w' : World) : Prop :=
  ∃ b, w.heap.size ≤ b ∧ e = .returned (.slice (some ⟨b, 0, none⟩) l.length l.length) ∧ w'.heap[b]? = some (.cells ((l.map chgC).flatten).toArray 91 (0, 0)) ∧ Below w.heap.size w w'
theorem decode_what {rs : List (List UInt8)} {k : Nat} (hrs : ∀ p ∈ rs, p.length = 64) (hl : (k + 15) / 16 + k ≤ rs.length) : ∀ c ∈ decode rs k, c.what.length = 64 := fun c hc => by
  obtain ⟨i, hi, rfl⟩ := List.mem_map.1 hc
  have hi := List.mem_range.1 hi
  have hlt : (k + 15) / 16 + i < rs.length := by omega
  show (rs.getD _ []).length = 64
  rw [List.getD_eq_getElem?_getD, List.getElem?_eq_getElem hlt]
  exact hrs _ (List.getElem_mem hlt)
section
variable {b : Nat} {w w' : World}
set_option maxRecDepth 100000 in
set_option maxHeartbeats 4000000 in
/-- changes. -/
theorem changes_any {p : List UInt8} {rs : List (List UInt8)} (h : RecAt b (p :: rs) w) (k T cap : Nat) (hk : (at8 p 9).toNat = k) (hT : takes k = T) (hrs : rs.length + 1 = T) (hT65 : T ≤ 4096) :
    Calls Tryd.prog 57 #[.slice (some ⟨b, 0, none⟩) T cap] w (ChangesP (decode rs k) w) := by
  have hT2 : 1 + (k + 15) / 16 + k = T := hT
  have hct := pcount_any h T cap (by omega)
  rw [hk] at hct
  have hmk := make_chgs k (by omega) w
  let f : Nat → List Value := fun i => chgC ⟨num4 (rs.getD (i / 16) []) (4 * (i % 16)), rs.getD ((k + 15) / 16 + i) []⟩
  have hfin : (List.range k).map f = (decode rs k).map chgC := by simp [decode, f]
  have hdl : (decode rs k).length = k := by simp [decode]
  have hz0 : List.replicate k zChg = midL f zChg k 0 := (midL_zero f zChg k).symm
  rw [hz0] at hmk
  have Hf : Hid (∀ i, f i = chgC ⟨num4 (rs.getD (i / 16) []) (4 * (i % 16)), rs.getD ((k + 15) / 16 + i) []⟩) := fun i => rfl
  have Hfin := Lib.hid hfin
  obtain ⟨f', hf'⟩ : ∃ f', f = f' := ⟨_, rfl⟩
  rw [hf'] at Hf Hfin hmk
  clear hf' hfin hz0 f
  obtain ⟨cs0, Hcs0⟩ : ∃ cs0, Hid (cs0 = (midL f' zChg k 0).flatten) := ⟨_, rfl⟩
  rw [← Hcs0.out] at hmk
  go_enter Tryd.func57, Tryd.ntmps57
  go_wp2_with (go_at_call 70; refine hct.mono ?_; rintro e w' ⟨rfl, rfl⟩)
  clear hmk hct
  have hba := (Below.refl w.heap.size w).alloc (Nat.le_refl _) (.cells cs0.toArray 91)
  have hW0 : CgRow b w.heap.size (p :: rs) (midL f' zChg k 0) w (w.alloc (.cells cs0.toArray 91)) := ⟨h.below hba, by rw [← Hcs0.out]; exact heap_alloc_new _ _, hba⟩
  clear hba
  generalize w.alloc (.cells cs0.toArray 91) = wa at hW0 ⊢
  obtain ⟨bl, hbl⟩ : ∃ bl, w.heap.size = bl := ⟨_, rfl⟩
  have hbbl : b < bl := by rw [← hbl]; exact h.lt
  rw [hbl] at hW0 ⊢
  have Hbl := Lib.hid hbl
  clear hbl
  go_loopg [11] k (fun gg i wr => ∃ c : Nat, c ≤ k ∧ gg = k - c ∧ i = .int .i64 c ∧ CgRow b bl (p :: rs) (midL f' zChg k c) w wr)
  case atStart => exact ⟨0, by omega, rfl, rfl, hW0⟩
  case round =>
    clear hW0
    obtain ⟨c, hc, rfl, rfl, hW⟩ := hrel
    by_cases hlt : c < k
    · have hlt' : (c : Int) < k := by omega
      obtain ⟨J, hJ⟩ : ∃ J, (k + 15) / 16 = J := ⟨_, rfl⟩
      have hJk : c / 16 < J := by omega
      have hTJ : 1 + J + k = T := by omega
      -- the number
      obtain ⟨np, Hnp⟩ : ∃ np, Hid (np = rs.getD (c / 16) []) := ⟨_, rfl⟩
      have hnp : (p :: rs)[1 + c / 16]? = some np := by rw [Nat.add_comm, List.getElem?_cons_succ, Hnp.out]; exact getD_some (by omega)
      obtain ⟨wp, Hwp⟩ : ∃ wp, Hid (wp = rs.getD (J + c) []) := ⟨_, rfl⟩
      have hwp : (p :: rs)[1 + J + c]? = some wp := by rw [show 1 + J + c = (J + c) + 1 from by omega, List.getElem?_cons_succ, Hwp.out]; exact getD_some (by omega)
      have hw64 : wp.length = 64 := hW.rec_.len _ (List.mem_of_getElem? hwp)
      have hnum := pnumber_any (b := b) T cap c (by omega) (by omega) wr
      have hget := get_any (w := wr) (bs := [at8 np (4 * (c % 16)), at8 np (4 * (c % 16) + 1), at8 np (4 * (c % 16) + 2), at8 np (4 * (c % 16) + 3)]) (n := 4) rfl (by omega) (g := b) (o := (1 + c / 16) * 64 + 4 * (c % 16)) (cap := 64 - 4 * (c % 16)) (fun j hj => by
        have := hW.rec_.cell hnp (j := 4 * (c % 16) + j) (by omega)
        rw [Nat.add_assoc, this]
        match j, hj with
        | 0, _ => rfl
        | 1, _ => rfl
        | 2, _ => rfl
        | 3, _ => rfl)
      rw [num4_four] at hget
      obtain ⟨nm, Hnm⟩ : ∃ nm, Hid (nm = num4 np (4 * (c % 16))) := ⟨_, rfl⟩
      rw [← Hnm.out] at hget
      have hnm : nm < 4294967296 := by rw [Hnm.out]; exact num4_lt _ _
      have hls := plists_any k (by omega) wr
      rw [hJ] at hls
      have hwr := hW.rec_.range hwp 0 64 (by omega)
      rw [List.drop_zero, List.take_of_length_le (by omega)] at hwr
      obtain ⟨wv, Hwv⟩ : ∃ wv : List Value, Hid (wv = wp.map cu8) := ⟨_, rfl⟩
      rw [← Hwv.out] at hwr
      have hwvl : wv.length = 64 := by rw [Hwv.out, List.length_map, hw64]
      have hwi : Hid ((Tryd.prog.info? 63).map (·.size) = some wv.length) := by rw [hwvl]; exact info64
      rw [Nat.add_zero] at hwr
      have Hwr := Lib.hid hwr
      obtain ⟨cv, Hcv⟩ : ∃ cv : List Value, Hid (cv = .int .i64 (nm : Int) :: wv) := ⟨_, rfl⟩
      have Hb : Hid (Tryd.prog.built 91 [(0, .int .i64 (nm : Int)), (1, .agg wv.toArray)] = some cv.toArray) := by rw [Hcv.out]; exact built_chg _ _ (by rw [Hwv.out]; exact bytes_page hw64)
      have hcvl : cv.length = 65 := by rw [Hcv.out, List.length_cons, hwvl]
      have hci : Hid ((Tryd.prog.info? 91).map (·.size) = some cv.toArray.size) := by rw [List.size_toArray, hcvl]; exact infoChg65
      have hcone : Hid (∀ v ∈ cv.toArray.toList, v.oneCell' = true) := fun v hv => by
        rw [Hcv.out, Hwv.out] at hv
        rcases List.mem_cons.1 (show v ∈ Value.int .i64 (nm : Int) :: wp.map cu8 from hv) with rfl | hv
        · rfl
        · obtain ⟨x, _, rfl⟩ := List.mem_map.1 hv; rfl
      have hall : ∀ q ∈ midL f' zChg k c, q.length = 65 := fun q hq => by
        obtain ⟨i, hi, rfl⟩ := List.mem_map.1 hq
        have hi := List.mem_range.1 hi
        split
        · rw [Hf.out]
          refine chgC_len ?_
          show (rs.getD ((k + 15) / 16 + i) []).length = 64
          have hlt2 : (k + 15) / 16 + i < rs.length := by omega
          exact hW.rec_.len _ (List.mem_cons_of_mem _ (List.mem_of_getElem? (getD_some hlt2)))
        · rfl
      have hcf : cv = f' c := by
        rw [Hf.out, Hcv.out, Hwv.out, hJ, ← Hwp.out, ← Hnp.out, ← Hnm.out]; rfl
      have hspl : Hid (splice (midL f' zChg k c).flatten (c * 65) cv.toArray.toList = (midL f' zChg k (c + 1)).flatten) := by
        rw [List.toList_toArray, splice_rows 65 hall c (by rw [midL_length]; exact hlt) cv hcvl, hcf, midL_set]; exact rfl
      have hfit : Hid (c * 65 + cv.toArray.size ≤ (midL f' zChg k c).flatten.length) := by
        show c * 65 + cv.toArray.size ≤ (midL f' zChg k c).flatten.length
        rw [rows_len 65 hall, midL_length, List.size_toArray, hcvl]; omega
      have Hrow := Lib.hid hW.row
      have hu1 : IntKind.i64.wrap (nm : Int) = (nm : Int) := IntWalk.i64_in _ (by omega)
      clear hwr hall hcf hcvl hwvl hnp hwp hJ
      go_wp2_with (first
        | (go_at_call 76; refine hnum.mono ?_; rintro e w' ⟨rfl, rfl⟩)
        | (go_at_call 75; refine hget.mono ?_; rintro e w' ⟨rfl, rfl⟩)
        | (go_at_call 64; refine hls.mono ?_; rintro e w' ⟨rfl, rfl⟩)
        | (refine wpList_load_mid rfl 63 _ rfl b ((1 + J + c) * 64) rfl wv _ Hwr.out Tryd.underlying63 rfl hwi.out ?_)
        | (refine wpList_build_to rfl 91 _ rfl cv.toArray (Eq.trans (congrArg (Program.built _ _) (by simp [Act.eval, Act.put])) Hb.out) ?_)
        | (refine wpList_store_into rfl 91 _ _ rfl bl (c * 65) cv.toArray rfl rfl _ 91 Hrow.out hci.out hfit.out hcone.out ?_; intro w6 Hs6 Hg6))
      have hW6 : CgRow b bl (p :: rs) (midL f' zChg k (c + 1)) w w6 := ⟨hW.rec_.of_block (Hg6.out.block b hW.rec_.lt (by simp; omega)), by have := Hs6.out; rw [hspl.out] at this; exact this,
        by have h1 := hW.bel; exact below_of_grown h1 Hg6.out h1.size (by have := Hbl.out; omega)⟩
      clear hW Hrow Hs6 Hg6 hspl hfit hcone hci Hb hwi Hwr hnum hget hls
      go_roundg (k - (c + 1))
      case measure => omega
      case rel => exact ⟨c + 1, by omega, rfl, by go_num, hW6⟩
    · obtain rfl : c = k := by omega
      have hW' := hW
      rw [midL_all, Hfin.out] at hW'
      go_wp2
      go_ret
      exact ⟨bl, by rw [Hbl.out]; exact Nat.le_refl _, by rw [hdl]; rfl, hW'.row, hW'.bel⟩
end
end Go.Proofs.YtegdlpllljccgaaDoor
