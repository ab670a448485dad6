/-
  The law's own: told, mark.
-/
import Derived.Test.YtegdlpllljccgaaDoorLwChg
set_option linter.unusedSimpArgs false
set_option linter.unusedVariables false
namespace Go.Proofs.YtegdlpllljccgaaDoor
open Go.RowKit Sh Go.Extern.Stop Go.Stop Go.Extern

theorem allocChg (w : World) : (Instr.alloc 91 true (.tuple #[])).run Tryd.prog w = .ok (.pointer (some ⟨w.heap.size, 0, none⟩)) (w.alloc (.cells zChg.toArray 91)) := by kernel_rfl
set_option maxRecDepth 100000 in
set_option maxHeartbeats 4000000 in
/-- told. -/
theorem told_any (l : List Chg) (bp : Option Addr) (cap : Nat) (hw : ∀ c ∈ l, c.what.length = 64) (hn : l.length ≤ 4096) (w : World) (hC : Chgs w.heap.size w bp l) :
    Calls Tryd.prog 24 #[.slice bp l.length cap] w (OwnP 106 l w) := by
  obtain ⟨i0, hi, hzz⟩ := Option.map_eq_some_iff.1 infoRChg
  simp only [Prod.mk.injEq] at hzz
  obtain ⟨hz0, hz1, hz2⟩ := hzz
  have Hi := Lib.hid hi; have Hz0 := Lib.hid hz0; have Hz1 := Lib.hid hz1; have Hz2 := Lib.hid hz2
  clear hi hz0 hz1 hz2
  obtain ⟨n, hnl⟩ : ∃ n, l.length = n := ⟨_, rfl⟩
  rw [hnl] at hn
  unfold OwnP
  rw [hnl]
  have Hnl := Lib.hid hnl
  clear hnl
  go_enter Tryd.func24, Tryd.ntmps24
  go_wp2
  go_loopg [8, 3] n (fun gg i v wr => ∃ k ap cp, k ≤ n ∧ gg = n - k ∧ i = .int .i64 (k : Nat) ∧ v = .slice ap k cp ∧ wr.ownsRow w.heap.size 106 65 (.slice ap k cp) k (rowsC (l.take k)) ∧ Below w.heap.size w wr)
  case atStart => exact ⟨0, none, 0, by omega, rfl, rfl, rfl, World.ownsRow_nil _ _ _ _, Below.refl _ _⟩
  case round =>
    obtain ⟨k, ap, cp, hk, rfl, rfl, rfl, hown, hbel⟩ := hrel
    by_cases hlt : k < n
    · have hlt' : (k : Int) < n := by omega
      have hkl : k < l.length := by rw [Hnl.out]; exact hlt
      obtain ⟨bl, rfl, hblN, hrange⟩ : ∃ b, bp = some ⟨b, 0, none⟩ ∧ b < w.heap.size ∧ ∀ i c, l[i]? = some c → w.rangeAt b (i * 65) (chgC c) := by
        rcases hC with h | h
        · rw [h] at hkl; simp at hkl
        · exact h
      obtain ⟨c, hc⟩ : ∃ c, l[k]? = some c := ⟨_, List.getElem?_eq_getElem hkl⟩
      have hcw := hw c (List.mem_of_getElem? hc)
      have htk : l.take (k + 1) = l.take k ++ [c] := by rw [List.take_add_one, hc]; rfl
      obtain ⟨cv, Hcv⟩ : ∃ cv : List Value, Hid (cv = chgC c) := ⟨_, rfl⟩
      have hcvl : cv.length = 65 := by rw [Hcv.out]; exact chgC_len hcw
      have hci : Hid ((Tryd.prog.info? 91).map (·.size) = some cv.length) := by rw [hcvl]; exact infoChg65
      have hci2 : Hid ((Tryd.prog.info? 91).map (·.size) = some cv.toArray.size) := by rw [List.size_toArray, hcvl]; exact infoChg65
      have hcz : Hid (zChg.toArray.size = cv.toArray.size) := by rw [show cv.toArray.size = 65 from by rw [List.size_toArray, hcvl]]; exact (rfl : zChg.toArray.size = 65)
      have hcone : Hid (cv.toArray.all (·.oneCell') = true) := by rw [Hcv.out]; exact all_oneCell_toArray (chgC_one c)
      have hrg : wr.rangeAt bl (k * 65) cv := fun j v hj => (hbel.cell (p := ⟨bl, k * 65 + j, none⟩) hblN).trans (hrange k c hc j v (by rw [← Hcv.out]; exact hj))
      have Hrg := Lib.hid hrg
      -- the variable
      obtain ⟨wv, Hwv⟩ : ∃ wv : List Value, Hid (wv = c.what.map cu8) := ⟨_, rfl⟩
      have hwvl : wv.length = 64 := by rw [Hwv.out, List.length_map, hcw]
      have hwi : Hid ((Tryd.prog.info? 63).map (·.size) = some wv.length) := by rw [hwvl]; exact info64
      have hbx : Below w.heap.size w (wr.alloc (.cells cv.toArray 91)) := hbel.alloc hbel.size _
      have hxx : (wr.alloc (.cells cv.toArray 91)).heap[wr.heap.size]? = some (.cells cv.toArray 91 (0, 0)) := heap_alloc_new wr _
      have hownX := hown.alloc (.cells cv.toArray 91)
      have hsx := hbx.size
      clear hrange hkl hc hrg
      go_upto_region 5 with (first
        | (refine wpList_alloc_arr rfl 91 rfl _ allocChg ?_)
        | (refine wpList_load_mid rfl 91 _ rfl bl (k * 65) rfl cv _ Hrg.out Tryd.underlying91 rfl hci.out ?_)
        | (refine wpList_store_new rfl 91 _ _ rfl wr.heap.size rfl cv.toArray rfl rfl 91 _ hci2.out hcz.out hcone.out ?_))
      generalize hwx : wr.alloc (.cells cv.toArray 91) = wx at hbx hxx hownX hsx ⊢
      have hxs : wr.heap.size + 1 = wx.heap.size := by rw [← hwx]; simp
      obtain ⟨x, hx⟩ : ∃ x, wr.heap.size = x := ⟨_, rfl⟩
      rw [hx] at hxx hxs ⊢
      clear hx hwx Hrg hci hci2 hcz hcone
      have ca : wx.cell? ⟨x, 0, none⟩ = some (.int .i64 (c.at_ : Nat)) := by rw [cell_of_row wx x 0 _ _ _ hxx, Hcv.out]; rfl
      have HLd := Lib.hid (run_loadAt_mid (P := Tryd.prog) wx x 1 63 wv _ (fun j v hj => by
        rw [cell_of_row wx x _ _ _ _ hxx, List.getElem?_toArray, Hcv.out, Nat.add_comm 1 j]
        simp only [chgC, List.getElem?_cons_succ]
        rw [← Hwv.out]; exact hj) Tryd.underlying63 rfl hwi.out)
      have hB := Lib.hid (built_rchg (c.at_ : Int) wv (by rw [Hwv.out]; exact bytes_page hcw))
      have hcve : .int .i64 (c.at_ : Int) :: wv = cv := by rw [Hcv.out, Hwv.out]; rfl
      rw [hcve] at hB
      have hownA := hownX.alloc (.cells cv.toArray 106)
      have hbA := hbx.alloc hsx (.cells cv.toArray 106)
      have hcells : ∀ (j : Nat) (u : Value), cv[j]? = some u → (wx.alloc (.cells cv.toArray 106)).cell? ((⟨wx.heap.size, 0, none⟩ : Addr).add j) = some u := fun j u hu => by
        have hadd : (⟨wx.heap.size, 0, none⟩ : Addr).add j = ⟨wx.heap.size, 0 + j, none⟩ := by unfold Addr.add; split <;> simp_all
        rw [hadd, Nat.zero_add, cell_of_row _ wx.heap.size j _ _ _ (heap_alloc_new wx _)]; simpa using hu
      have Hcells := Lib.hid hcells
      have Hcone : Hid (∀ u ∈ cv, u.oneCell' = true) := by rw [Hcv.out]; exact chgC_one c
      have hrs : rowsC (l.take k) ++ cv = rowsC (l.take (k + 1)) := by rw [Hcv.out, htk, rowsC_snoc]
      have Hrs := Lib.hid hrs
      have hsz := hbA.size
      clear hcells hrs hown hownX hcve hxx
      go_wp2_with (first
        | (refine wpList_load_page _ rfl x 1 rfl _ HLd.out (by rfl) ?_)
        | (refine wpList_build_to rfl 106 _ rfl cv.toArray (Eq.trans (congrArg (Program.built _ _) (by simp [Act.eval, Act.put])) hB.out) ?_)
        | (refine wpList_row1 58 106 _ rfl rfl cv 65 zChg 72 Tryd.underlying58 infoRChg (by omega) (by omega) zChg_len hcvl rfl ?_)
        | (refine wpList_append_own _ rfl _ _ 58 rfl w.heap.size 106 i0 (.agg zChg.toArray) 65 72 Tryd.underlying58 Hi.out Hz0.out Hz1.out Hz2.out rfl (by decide) _ _ _ rfl hownA ⟨wx.heap.size, 0, none⟩ 1 1 cv rfl (by rw [hcvl]) Hcells.out Hcone.out (by unfold maxLen; omega) (by omega) (by omega) ?_; intro v' w4 hown4 hgr4 _))
      have hbel4 := below_own hbA hownA hgr4 hsz
      rw [Hrs.out] at hown4
      obtain ⟨ap', cp', hv'⟩ := row_form hown4
      subst hv'
      have Hown4 := Lib.hid hown4
      clear hown4 hgr4 hbA hownA Hcells Hcone hB hbel
      go_roundg (n - (k + 1))
      case measure => omega
      case rel => exact ⟨k + 1, ap', cp', by omega, rfl, by go_num, rfl, Hown4.out, hbel4⟩
    · obtain rfl : k = n := by omega
      rw [List.take_of_length_le (by rw [Hnl.out]; exact Nat.le_refl _)] at hown
      go_wp2
      go_ret
      exact ⟨ap, cp, rfl, hown, hbel⟩
theorem allocRMark (w : World) : (Instr.alloc 46 true (.tuple #[])).run Tryd.prog w = .ok (.pointer (some ⟨w.heap.size, 0, none⟩)) (w.alloc (.cells zMark.toArray 46)) := by kernel_rfl
theorem infoRMark : (Tryd.prog.info? 46).map (·.size) = some 34 := by kernel_rfl
theorem built_rmarkI (pl : Int) (num : Nat) (last : List UInt8) (h : last.length = 32) : Tryd.prog.built 46 [(0, .int .i64 pl), (1, .int .u64 num), (2, .agg (last.map cu8).toArray)] = some (markI pl num last).toArray := by
  have hu : (Tryd.prog.underlying 46).bind (fun d => match d with | .struct fs => fs.toList.mapM (fun f => (Tryd.prog.info? f.type).map fun i => (f.offset, i.size)) | _ => none) = some [(0, 1), (1, 1), (2, 32)] := by kernel_rfl
  obtain ⟨ti, hti, hz⟩ := Option.map_eq_some_iff.1 infoMark
  simp only [Prod.mk.injEq] at hz
  unfold Program.built
  rw [hti, Tryd.underlying46]
  rw [Tryd.underlying46] at hu
  simp only [Option.bind_some] at hu
  simp only [hz.1, hu]
  exact fill_three _ (by simp [Value.cells, markCells]) (.int .i64 pl) (.int .u64 num) rfl rfl _ (by simp [h]) _ rfl rfl rfl
set_option maxRecDepth 100000 in
set_option maxHeartbeats 4000000 in
/-- mark. -/
theorem lmark_any (pl : Int) (num : Nat) (last : List UInt8) (h : last.length = 32) (w : World) :
    Calls Tryd.prog 16 #[.agg (markI pl num last).toArray] w (AggPost (fun r => r = (markI pl num last).toArray) w) := by
  obtain ⟨mv, Hmv⟩ : ∃ mv : List Value, Hid (mv = markI pl num last) := ⟨_, rfl⟩
  rw [← Hmv.out]
  have hmvl : mv.length = 34 := by rw [Hmv.out]; simp [markI, h]
  have hb2 : Below w.heap.size w ((w.alloc (.cells mv.toArray 25)).alloc (.cells zMark.toArray 46)) := ((Below.refl _ _).alloc (Nat.le_refl _) _).alloc (by simp) _
  have h1 : ((w.alloc (.cells mv.toArray 25)).alloc (.cells zMark.toArray 46)).heap[w.heap.size]? = some (.cells mv.toArray 25 (0, 0)) := by
    rw [Below.heap_alloc _ _ _ (by simp)]; exact heap_alloc_new _ _
  have h2 : ((w.alloc (.cells mv.toArray 25)).alloc (.cells zMark.toArray 46)).heap[w.heap.size + 1]? = some (.cells zMark.toArray 46 (0, 0)) := by
    have := heap_alloc_new (w.alloc (.cells mv.toArray 25)) (.cells zMark.toArray 46)
    simpa using this
  have HB := Lib.hid (built_rmarkI pl num last h)
  rw [← Hmv.out] at HB
  obtain ⟨lv, Hlv⟩ : ∃ lv : List Value, Hid (lv = last.map cu8) := ⟨_, rfl⟩
  rw [← Hlv.out] at HB
  go_enter Tryd.func16, Tryd.ntmps16
  go_upto_region 1 with (refine wpList_alloc_arr rfl 46 rfl _ allocRMark ?_)
  try simp only [World.size_alloc]
  generalize (w.alloc (.cells mv.toArray 25)).alloc (.cells zMark.toArray 46) = w2 at hb2 h1 h2 ⊢
  obtain ⟨o, ho⟩ : ∃ o, w.heap.size + 1 = o := ⟨_, rfl⟩
  obtain ⟨r, hr⟩ : ∃ r, w.heap.size = r := ⟨_, rfl⟩
  rw [ho] at h2 ⊢
  rw [hr] at h1 ⊢
  have hro : w.heap.size ≤ o := by omega
  clear ho hr
  have c0 : w2.cell? ⟨r, 0, none⟩ = some (.int .i64 pl) := by rw [cell_of_row w2 r 0 _ _ _ h1, Hmv.out]; rfl
  have c1 : w2.cell? ⟨r, 1, none⟩ = some (.int .u64 num) := by rw [cell_of_row w2 r 1 _ _ _ h1, Hmv.out]; rfl
  have hlv : Hid ((Tryd.prog.info? 23).map (·.size) = some lv.length) := by rw [Hlv.out, List.length_map, h]; exact (by kernel_rfl : (Tryd.prog.info? 23).map (·.size) = some 32)
  have HL := Lib.hid (run_loadAt_mid (P := Tryd.prog) w2 r 2 23 lv _ (fun j v hj => by
    rw [cell_of_row w2 r _ _ _ _ h1, List.getElem?_toArray, Hmv.out, Nat.add_comm 2 j]
    simp only [markI, List.getElem?_cons_succ]
    rw [← Hlv.out]; exact hj) Tryd.underlying23 rfl hlv.out)
  have hmi : Hid ((Tryd.prog.info? 46).map (·.size) = some mv.toArray.size) := by rw [List.size_toArray, hmvl]; exact infoRMark
  have hmz : Hid (zMark.toArray.size = mv.toArray.size) := by rw [show mv.toArray.size = 34 from by rw [List.size_toArray, hmvl]]; exact (rfl : zMark.toArray.size = 34)
  have hm1 : Hid (mv.toArray.all (·.oneCell') = true) := by
    rw [Hmv.out]; exact all_oneCell_toArray (fun v hv => by
      simp only [markI, List.mem_cons, List.mem_map] at hv
      rcases hv with rfl | rfl | ⟨x, _, rfl⟩ <;> rfl)
  have H2 := Lib.hid h2
  clear h2 h1 hmvl
  go_wp2_with (first
    | (refine wpList_load_mid rfl 23 _ rfl r 2 rfl lv _ (fun j v hj => ?_) Tryd.underlying23 rfl hlv.out ?_; fail)
    | (refine wpList_val (by rfl) (exec_load _ _ 23 _ rfl r 2 rfl _ HL.out) ?_)
    | (refine wpList_build_to rfl 46 _ rfl mv.toArray (Eq.trans (congrArg (Program.built _ _) (by simp [Act.eval, Act.put])) HB.out) ?_)
    | (refine wpList_store_row rfl 46 _ _ rfl o mv.toArray rfl rfl 46 zMark.toArray H2.out hmi.out hmz.out hm1.out ?_))
  refine bodyPost_ret (v := .agg mv.toArray) ?_ rfl ⟨mv.toArray, rfl, rfl, below_setRow hb2 hro _⟩
  exact results_cell_row (ty := 46) rfl _ _ o 46 _ (0, 0) _ rfl (setRow_heap _ _ _ _ _ _ H2.out) Tryd.underlying46 rfl hmi.out
end Go.Proofs.YtegdlpllljccgaaDoor
