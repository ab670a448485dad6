/-
  The reference's Open, what it finds.
-/
import Derived.Test.YtegdlpllljccgaaDoorRrNext
import Derived.Test.YtegdlpllljccgaaDoorPrOpen
import Derived.Test.YtegdlpllljccgaaDoorLwWorld
set_option linter.unusedSimpArgs false
set_option linter.unusedVariables false
namespace Go.Proofs.YtegdlpllljccgaaDoor
open Go.RowKit Sh Go.Extern.Stop Go.Stop Go.Extern

theorem infoSlotR : (Tryd.prog.info? 58).map (fun i => (i.zero, i.size, i.bytes)) = some (some (.slice none 0 0), 1, 24) := by kernel_rfl
/-- The records that were found, each in a row of its own from block B on. -/
def RecsRf (B : Nat) (w : World) (vs : List Value) (rs : List (List Chg)) : Prop := vs.length = rs.length ∧
  ∀ (i : Nat) (l : List Chg), rs[i]? = some l → ∃ b, B ≤ b ∧ vs[i]? = some (Value.slice (some ⟨b, 0, none⟩) l.length l.length) ∧ w.heap[b]? = some (.cells ((l.map chgC).flatten).toArray 106 (0, 0))
theorem RecsRf.keep {B : Nat} {w w' : World} {vs : List Value} {rs : List (List Chg)} (h : RecsRf B w vs rs) (hk : ∀ b cs, B ≤ b → w.heap[b]? = some (.cells cs 106 (0, 0)) → w'.heap[b]? = w.heap[b]?) : RecsRf B w' vs rs :=
  ⟨h.1, fun i l hi => by obtain ⟨b, h1, h2, h3⟩ := h.2 i l hi; exact ⟨b, h1, h2, (hk b _ h1 h3).trans h3⟩⟩
theorem RecsRf.below {B : Nat} {w w' : World} {vs : List Value} {rs : List (List Chg)} (h : RecsRf B w vs rs) (hb : Below w.heap.size w w') : RecsRf B w' vs rs :=
  h.keep fun b _ _ e => hb.block b (Array.getElem?_eq_some_iff.1 e).1
theorem RecsRf.snoc {B : Nat} {w : World} {vs : List Value} {rs : List (List Chg)} (h : RecsRf B w vs rs) {b : Nat} {l : List Chg} (hb : B ≤ b) (hr : w.heap[b]? = some (.cells ((l.map chgC).flatten).toArray 106 (0, 0))) :
    RecsRf B w (vs ++ [.slice (some ⟨b, 0, none⟩) l.length l.length]) (rs ++ [l]) := by
  refine ⟨by simp [h.1], fun i l' hi => ?_⟩
  by_cases hlt : i < rs.length
  · rw [List.getElem?_append_left hlt] at hi
    obtain ⟨b', h1, h2, h3⟩ := h.2 i l' hi
    exact ⟨b', h1, by rw [List.getElem?_append_left (by rw [h.1]; exact hlt)]; exact h2, h3⟩
  · have hi2 : i = rs.length := by
      have := (List.getElem?_eq_some_iff.1 hi).1
      simp at this; omega
    subst hi2
    rw [List.getElem?_append_right (by omega), Nat.sub_self] at hi
    obtain rfl : l = l' := by simpa using hi
    exact ⟨b, hb, by rw [List.getElem?_append_right (by rw [h.1]; exact Nat.le_refl _), h.1, Nat.sub_self]; rfl, hr⟩
/-- What turns a row of slices of changes leaves rows of changes. -/
theorem RecsRf.grown {B : Nat} {w w' : World} {vs : List Value} {rs : List (List Chg)} (h : RecsRf B w vs rs) {v : Value} {s n : Nat} {xs : List Value} {C : Nat} (hv : w.ownsRow C 58 s v n xs) (hg : w.grownBy w' v.ownBlock) : RecsRf B w' vs rs :=
  h.keep fun b cs _ e => hg.block b (Array.getElem?_eq_some_iff.1 e).1 (fun hq => by
    obtain ⟨cur, hc⟩ := row_block hv hq.symm
    rw [e] at hc
    simp only [Option.some.injEq, Obj.cells.injEq] at hc
    exact absurd hc.2.1 (by decide))
theorem built_rring (gd first n : Nat) (m : Mk) (h : m.last.length = 32) : Tryd.prog.built 55 [(0, .pointer (some ⟨gd, 0, none⟩)), (1, .int .i64 first), (2, .int .i64 n), (3, .agg (markCells m).toArray)] = some (ringCells gd first n m 0) := by
  have hu : (Tryd.prog.underlying 55).bind (fun d => match d with | .struct fs => fs.toList.mapM (fun f => (Tryd.prog.info? f.type).map fun i => (f.offset, i.size)) | _ => none) = some [(0, 1), (1, 1), (2, 1), (3, 34), (37, 1)] := by kernel_rfl
  have hin : (Tryd.prog.info? 55).map (fun i => (i.zero, i.size)) = some (some (.agg (Value.pointer none :: .int .i64 0 :: .int .i64 0 :: (zMark ++ [.int .i64 0])).toArray), 38) := by kernel_rfl
  obtain ⟨ti, hti, hz⟩ := Option.map_eq_some_iff.1 hin
  simp only [Prod.mk.injEq] at hz
  unfold Program.built
  rw [hti, Tryd.underlying55]
  rw [Tryd.underlying55] at hu
  simp only [Option.bind_some] at hu
  simp only [hz.1, hu]
  exact fill_ring _ (by simp [Value.cells, zMark, markCells]) (by rfl) (.pointer (some ⟨gd, 0, none⟩)) (.int .i64 first) (.int .i64 n) rfl rfl rfl (markCells m) (by simp [markCells, h]) _ rfl rfl rfl rfl

theorem rfirm_len {S : St} {F : Nat → Prop} {gd : Nat} {w : World} (h : RD S F gd w) : ∃ fp fc, w.cell? ⟨gd, 0, none⟩ = some (.slice fp S.firm.length fc) := by
  obtain ⟨vf, va, vw, hR, _⟩ := h
  obtain ⟨ap, cp, rfl⟩ := row_form hR.rowF
  exact ⟨ap, cp, by rw [hR.cell]; rfl⟩
def ROpenP (gd first n : Nat) (r : List (List Chg) × Mk × Nat) (w : World) (e : Ending) (w' : World) : Prop :=
  ∃ g ap cp vs used, e = .returned (.tuple #[.pointer (some ⟨g, 0, none⟩), .slice ap r.1.length cp, .int .i64 0]) ∧ w.heap.size ≤ g ∧ RgAt g gd first n r.2.1 used w' ∧ used ≤ n ∧ n - used = r.2.2 ∧ w'.ownsRow w.heap.size 58 1 (.slice ap r.1.length cp) r.1.length vs ∧ RecsRf w.heap.size w' vs r.1 ∧ Below w.heap.size w w'
structure RfW (g gd first n : Nat) (m : Mk) (used : Nat) (pg : Nat → List UInt8) (m0 : Mk) (ap : Option Addr) (cp : Nat) (done : List (List Chg)) (w wr : World) : Prop where
  ring : RgAt g gd first n m used wr
  place : m.place < n
  num : m.num < 18446744073709551616
  usedLe : used ≤ n
  own : ∃ vs, wr.ownsRow w.heap.size 58 1 (.slice ap done.length cp) done.length vs ∧ RecsRf w.heap.size wr vs done
  only : Only (fun j => j = g) w wr
  cnt : done.length ≤ used
  eqn : openAll n pg n n m0 = (done ++ (openAll n pg n (n - used) m).1, (openAll n pg n (n - used) m).2)
section
variable {gd first n : Nat} {m : Mk} {S : St} {F : Nat → Prop} {w : World}
set_option maxRecDepth 100000 in
set_option maxHeartbeats 8000000 in
/-- Open. -/
theorem ropen_any (hD : RD S F gd w) (hG : Good S) (hB : Byt S) (ho : S.off = false) (hcnt : S.ats.length ≤ 1048576) (hin : first + n ≤ S.firm.length) (hn0 : 96 ≤ n) (hn1 : n ≤ 4096) (hpl : m.place < n) (hnum : m.num < 18446744073709551616) (hlast : m.last.length = 32) :
    Calls Tryd.prog 15 #[.pointer (some ⟨gd, 0, none⟩), .int .i64 first, .int .i64 n, .agg (markCells m).toArray] w (ROpenP gd first n (openAll n (pgOf (imgB S) first n) n n m) w) := by
  have hle := hG.le
  obtain ⟨D, hDl⟩ : ∃ D, S.firm.length = D := ⟨_, rfl⟩
  obtain ⟨pg, Hpg⟩ : ∃ pg, Hid (pg = pgOf (imgB S) first n) := ⟨_, rfl⟩
  have hnext : ∀ (W : World) (g : Nat) (M : Mk) (U : Nat), RgAt g gd first n M U W → RD S F gd W → M.place < n → M.num < 18446744073709551616 → U ≤ n → Calls Tryd.prog 41 #[.pointer (some ⟨g, 0, none⟩)] W (NextP n pg (n - U) M W) := by
    rw [Hpg.out]; exact fun _ _ _ _ h1 h2 h3 h4 h5 => rnext_any h1 h2 hG hB ho hcnt hin (by omega) hn1 h3 h4 h5
  have Hnext := Lib.hid hnext
  rw [← Hpg.out]
  clear hnext
  obtain ⟨mv, Hmv⟩ : ∃ mv : List Value, Hid (mv = markCells m) := ⟨_, rfl⟩
  rw [← Hmv.out]
  have hmvl : mv.length = 34 := by rw [Hmv.out]; simp [markCells, hlast]
  have hmi : Hid ((Tryd.prog.info? 46).map (·.size) = some mv.toArray.size) := by rw [List.size_toArray, hmvl]; exact infoRMark
  have hbA : Below w.heap.size w (w.alloc (.cells mv.toArray 46)) := (Below.refl _ _).alloc (Nat.le_refl _) _
  have hxA : (w.alloc (.cells mv.toArray 46)).heap[w.heap.size]? = some (.cells mv.toArray 46 (0, 0)) := heap_alloc_new w _
  have hDA := hD.below hbA
  obtain ⟨fp, fc, cF⟩ := rfirm_len hDA
  rw [hDl] at cF hin hle
  have hszA : (w.alloc (.cells mv.toArray 46)).heap.size = w.heap.size + 1 := by simp
  clear hmvl hD
  go_enter Tryd.func15, Tryd.ntmps15
  go_upto_region 1 with (fail)
  generalize w.alloc (.cells mv.toArray 46) = wa at hbA hxA hDA cF hszA ⊢
  obtain ⟨x, hx⟩ : ∃ x, w.heap.size = x := ⟨_, rfl⟩
  rw [hx] at hxA hszA ⊢
  have cpl : wa.cell? ⟨x, 0, none⟩ = some (.int .i64 m.place) := by rw [cell_of_row wa x _ _ _ _ hxA, Hmv.out]; rfl
  have Hx := Lib.hid hx; have HszA := Lib.hid hszA
  clear hx hszA
  have g1 : ¬ (first : Int) < 0 := by omega
  have g2 : ¬ (n : Int) < 96 := by omega
  have g3 : ¬ (4096 : Int) < n := by omega
  have wS : IntKind.i64.wrap ((D : Int) - (n : Int)) = ((D - n : Nat) : Int) := by rw [IntWalk.i64_in _ (by omega)]; omega
  obtain ⟨dn, hdn⟩ : ∃ dn, D - n = dn := ⟨_, rfl⟩
  rw [hdn] at wS
  have g4 : ¬ (dn : Int) < first := by omega
  have g5 : ¬ (m.place : Int) < 0 := by omega
  have g6 : ¬ (n : Int) ≤ m.place := by omega
  obtain ⟨rc, Hrc⟩ : ∃ rc : Array Value, Hid (rc = ringCells gd first n m 0) := ⟨_, rfl⟩
  have hbr : Hid (Tryd.prog.built 55 [(0, .pointer (some ⟨gd, 0, none⟩)), (1, .int .i64 first), (2, .int .i64 n), (3, .agg mv.toArray)] = some rc) := by rw [Hrc.out, Hmv.out]; exact built_rring gd first n m hlast
  go_upto_region 3 with (fail)
  clear g1 g2 g3 g4 g5 g6 wS cF cpl hdn
  go_upto_region 5 with (first
    | (refine wpList_load_row rfl 46 _ rfl x rfl 46 mv.toArray (0, 0) _ hxA Tryd.underlying46 rfl hmi.out ?_)
    | (refine wpList_build_to rfl 55 _ rfl rc (Eq.trans (congrArg (Program.built _ _) (by simp [Act.eval, Act.put])) hbr.out) ?_))
  have hbB : Below wa.heap.size wa (wa.alloc (.cells rc 55)) := (Below.refl _ _).alloc (Nat.le_refl _) _
  have hrB : RgAt wa.heap.size gd first n m 0 (wa.alloc (.cells rc 55)) := ⟨by rw [← Hrc.out]; exact heap_alloc_new wa _, hlast⟩
  have hDB := hDA.below hbB
  have hbelB := hbA.trans (hbB.mono hbA.size)
  have hFa : ∀ b, F b → b < wa.heap.size := fun b hb => hDA.lt hb
  generalize wa.alloc (.cells rc 55) = wb at hbB hrB hDB hbelB ⊢
  obtain ⟨g, hg⟩ : ∃ g, wa.heap.size = g := ⟨_, rfl⟩
  rw [hg] at hrB hFa ⊢
  have hxg : x < g := by have := HszA.out; omega
  clear hg hbB hDA hxA hbr hmi hbA
  obtain ⟨is, his, hisz⟩ := Option.map_eq_some_iff.1 infoSlotR
  simp only [Prod.mk.injEq] at hisz
  have His := Lib.hid (And.intro his hisz)
  have hW0 : RfW g gd first n m 0 pg m none 0 [] wb wb := ⟨hrB, hpl, hnum, by omega, ⟨[], World.ownsRow_nil _ _ _ _, rfl, fun i l hi => by simp at hi⟩, Only.refl _ _, by simp, by simp⟩
  have HW0 := Lib.hid hW0; have HDB := Lib.hid hDB; have HbelB := Lib.hid hbelB
  have hgw : w.heap.size ≤ g := by have := Hx.out; omega
  have hgwb : g < wb.heap.size := hrB.lt
  clear his hisz hW0 hDB hbelB hrB
  go_loopg [12] (n + 1) (fun gg v wr => ∃ ap cp m' used done, gg = n + 1 - used ∧ v = .slice ap done.length cp ∧ RfW g gd first n m' used pg m ap cp done wb wr)
  case atStart => exact ⟨none, 0, m, 0, [], rfl, rfl, HW0.out⟩
  case round =>
    clear HW0
    obtain ⟨ap, cp, m', used, done, rfl, rfl, hW⟩ := hrel
    obtain ⟨vs, hown, hrecs⟩ := hW.own
    have hDr : RD S F gd wr := HDB.out.keep hW.only (fun k hk e => by have := hFa k hk; have e' : k = g := e; omega)
    have hnx := Hnext.out wr g m' used hW.ring hDr hW.place hW.num hW.usedLe
    obtain ⟨DL, hDLe⟩ : ∃ DL, done.length = DL := ⟨_, rfl⟩
    have hDLb : DL ≤ 4096 := by have := hW.cnt; have := hW.usedLe; omega
    rw [hDLe]
    have HDL := Lib.hid hDLe
    have HW := Lib.hid hW; have Hnx := Lib.hid hnx; have Hown := Lib.hid hown; have Hrecs := Lib.hid hrecs
    clear hW hnx hDr hown hrecs hDLe
    go_wp2_with (go_at_call 41; refine Hnx.out.mono ?_)
    rintro e w2 ⟨hb2, hp⟩
    rcases hp with ⟨hno, bs, hbl, rfl⟩ | ⟨hh, b, rfl, hbw, hrow2⟩
    · obtain ⟨sv, Hsv⟩ : ∃ sv : List Value, Hid (sv = bs.map cu8) := ⟨_, rfl⟩
      rw [← Hsv.out]
      have hsvl : sv.length = 32 := by rw [Hsv.out, List.length_map, hbl]
      have hsi2 : Hid ((Tryd.prog.info? 23).map (·.size) = some sv.toArray.size) := by rw [List.size_toArray, hsvl]; exact (by kernel_rfl : (Tryd.prog.info? 23).map (·.size) = some 32)
      have hsz : Hid (z32.toArray.size = sv.toArray.size) := by rw [show sv.toArray.size = 32 from by rw [List.size_toArray, hsvl]]; exact (rfl : z32.toArray.size = 32)
      have hs1 : Hid (sv.toArray.all (·.oneCell') = true) := by rw [Hsv.out]; exact bytes_one _
      clear hsvl
      go_upto_region 6 with (first
        | (refine wpList_alloc_arr rfl 23 rfl _ alloc32 ?_)
        | (refine wpList_store_new rfl 23 _ _ rfl w2.heap.size rfl sv.toArray rfl rfl 23 _ hsi2.out hsz.out hs1.out ?_))
      have hb3 : Below w2.heap.size w2 (w2.alloc (.cells sv.toArray 23)) := (Below.refl _ _).alloc (Nat.le_refl _) _
      generalize w2.alloc (.cells sv.toArray 23) = w3 at hb3 ⊢
      have hb23 := hb2.trans (hb3.mono hb2.size)
      have Hb23 := Lib.hid hb23
      clear hb2 hb3 hb23
      go_wp2
      first | go_ret2 | (refine bodyPost_ret (v := .tuple #[.pointer (some ⟨g, 0, none⟩), .slice ap DL cp, .int .i64 0]) (by simp [results, Tryd.results15, go_sem]) rfl ?_)
      have hstop := openAll_stop (n := n) (pg := pg) (f := n) (free := n - used) (m := m') hno
      have heqn := HW.out.eqn
      rw [hstop, List.append_nil] at heqn
      have hown3 := own_keep Hown.out fun b e => Hb23.out.block b (Hown.out.lt b e).2
      have hrecs3 := Hrecs.out.below Hb23.out
      have hszw := HbelB.out.size
      have hwb : Below w.heap.size w w3 := HbelB.out.trans ((HW.out.only.base hszw (fun j hj => by have e : j = g := hj; omega)).trans (Hb23.out.mono (Nat.le_trans hszw HW.out.only.size)))
      rw [heqn]
      refine ⟨g, ap, cp, vs, used, by rw [HDL.out], hgw, HW.out.ring.below Hb23.out, HW.out.usedLe, rfl, row_base hown3 hszw, ⟨hrecs3.1, fun i l hi => ?_⟩, hwb⟩
      obtain ⟨b, h1, h2, h3⟩ := hrecs3.2 i l hi
      exact ⟨b, Nat.le_trans hszw h1, h2, h3⟩
    · obtain ⟨k, hk⟩ : ∃ k, kOf pg m' = k := ⟨_, rfl⟩
      obtain ⟨T, hT⟩ : ∃ T, takes k = T := ⟨_, rfl⟩
      have hone := openAll_one (n := n) (free := n - used) (by omega) hh
      have hk60 := hh.1.2.2.1
      have hk1 := hh.1.2.1
      have hfr := (holds_free hh).2
      rw [hk] at hone hk60 hfr hk1
      rw [hT] at hone hfr
      rw [hk]
      have hTT : T ≤ 65 ∧ 1 ≤ T := by rw [← hT]; unfold takes; omega
      obtain ⟨fd, hfde⟩ : ∃ fd, found pg m' = fd := ⟨_, rfl⟩
      have hfdl : fd.length = k := by rw [← hfde]; unfold found decode; rw [List.length_map, List.length_range, hk]
      rw [hfde] at hrow2 hone
      obtain ⟨dg, Hdg⟩ : ∃ dg, Hid (dg = dig (rawText pg m')) := ⟨_, rfl⟩
      rw [← Hdg.out] at hone ⊢
      have hdgl : dg.length = 32 := by rw [Hdg.out]; exact dig_len _
      obtain ⟨sv, Hsv⟩ : ∃ sv : List Value, Hid (sv = dg.map cu8) := ⟨_, rfl⟩
      rw [← Hsv.out]
      have hsvl : sv.length = 32 := by rw [Hsv.out, List.length_map, hdgl]
      have hsi2 : Hid ((Tryd.prog.info? 23).map (·.size) = some sv.toArray.size) := by rw [List.size_toArray, hsvl]; exact (by kernel_rfl : (Tryd.prog.info? 23).map (·.size) = some 32)
      have hsz : Hid (z32.toArray.size = sv.toArray.size) := by rw [show sv.toArray.size = 32 from by rw [List.size_toArray, hsvl]]; exact (rfl : z32.toArray.size = 32)
      have hs1 : Hid (sv.toArray.all (·.oneCell') = true) := by rw [Hsv.out]; exact bytes_one _
      have hk0 : ¬ (k : Int) = 0 := by omega
      have hk0n : ¬ k = 0 := by omega
      have Hone := Lib.hid hone; have Hhh := Lib.hid hh; have Hk := Lib.hid hk; have HT := Lib.hid hT; have Hfdl := Lib.hid hfdl
      clear hsvl hone hh hk hT hfde hfdl
      go_upto_region 6 with (first
        | (refine wpList_alloc_arr rfl 23 rfl _ alloc32 ?_)
        | (refine wpList_store_new rfl 23 _ _ rfl w2.heap.size rfl sv.toArray rfl rfl 23 _ hsi2.out hsz.out hs1.out ?_))
      have hb3 : Below w2.heap.size w2 (w2.alloc (.cells sv.toArray 23)) := (Below.refl _ _).alloc (Nat.le_refl _) _
      have hy3 : (w2.alloc (.cells sv.toArray 23)).heap[w2.heap.size]? = some (.cells sv.toArray 23 (0, 0)) := heap_alloc_new w2 _
      generalize w2.alloc (.cells sv.toArray 23) = w3 at hb3 hy3 ⊢
      obtain ⟨y, hy⟩ : ∃ y, w2.heap.size = y := ⟨_, rfl⟩
      have hby : b < y := by rw [← hy]; exact (Array.getElem?_eq_some_iff.1 hrow2).1
      have hry : wr.heap.size ≤ y := by rw [← hy]; exact hb2.size
      rw [hy] at hy3 ⊢
      have hb23 := hb2.trans (hb3.mono hb2.size)
      have hrow3 := (hb3.block b (Array.getElem?_eq_some_iff.1 hrow2).1).trans hrow2
      have hown3 := own_keep Hown.out fun b e => hb23.block b (Hown.out.lt b e).2
      have hrecs3 := Hrecs.out.below hb23
      have hring3 := HW.out.ring.below hb23
      rw [HDL.out] at hown3
      have hownA := hown3.alloc (.cells #[.slice (some ⟨b, 0, none⟩) k k] 58)
      have hcell : ∀ (j : Nat) (u : Value), [Value.slice (some ⟨b, 0, none⟩) k k][j]? = some u → (w3.alloc (.cells #[.slice (some ⟨b, 0, none⟩) k k] 58)).cell? ((⟨w3.heap.size, 0, none⟩ : Addr).add j) = some u := fun j u hu => by
        match j with
        | 0 =>
          obtain rfl : Value.slice (some ⟨b, 0, none⟩) k k = u := by simpa using hu
          exact cell_of_row _ w3.heap.size _ _ _ _ (heap_alloc_new w3 _)
        | j + 1 => simp at hu
      have HownA := Lib.hid hownA; have Hcell := Lib.hid hcell; have Hrow3 := Lib.hid hrow3; have Hrecs3 := Lib.hid hrecs3; have Hring3 := Lib.hid hring3; have Hb23 := Lib.hid hb23; have Hown3 := Lib.hid hown3
      have hws : wb.heap.size ≤ w3.heap.size := Nat.le_trans HW.out.only.size hb23.size
      clear hownA hcell hrow3 hrecs3 hring3 hb23 hown3 hb3 hb2 hrow2
      go_upto_region 11 with (first
        | (refine wpList_append_lies _ rfl _ _ 43 rfl wb.heap.size 58 is _ 1 24 Tryd.underlying43 His.out.1 His.out.2.1 His.out.2.2.1 His.out.2.2.2 rfl (by omega) _ DL vs rfl HownA.out ⟨w3.heap.size, 0, none⟩ 1 1 [Value.slice (some ⟨b, 0, none⟩) k k] rfl rfl Hcell.out (fun u hu => by rw [List.mem_singleton.1 hu]; rfl) (by omega) (by unfold maxLen; omega) (by omega) (Nat.le_trans hws (by simp)) (w3.heap.size + 1) (by simp) ?_; intro g13 cp13 w13 hown13 hgr13' hg13' hlt13))
      have hgr13 : (w3.alloc (.cells #[.slice (some ⟨b, 0, none⟩) k k] 58)).grownBy w13 (Value.slice ap DL cp).ownBlock := hgr13'
      clear hgr13' hg13' hlt13 Hnx
      have hbx : Below w3.heap.size w3 (w3.alloc (.cells #[.slice (some ⟨b, 0, none⟩) k k] 58)) := (Below.refl _ _).alloc (Nat.le_refl _) _
      have hvl := fun j (e : (Value.slice ap DL cp).ownBlock = some j) => Hown3.out.lt j e
      have hsame : ∀ j, j < w3.heap.size → (Value.slice ap DL cp).ownBlock ≠ some j → w13.heap[j]? = w3.heap[j]? := fun j hj hne => by
        rw [hgr13.block j (by simp; omega) (fun e => hne e.symm), Below.heap_alloc _ _ _ hj]
      have hring13 : RgAt g gd first n m' used w13 := ⟨(hsame g Hring3.out.lt (fun e => by have := (hvl g e).1; omega)).trans Hring3.out.at_, Hring3.out.last⟩
      have hy13 : w13.heap[y]? = some (.cells sv.toArray 23 (0, 0)) := (hsame y (Array.getElem?_eq_some_iff.1 hy3).1 (fun e => by have := (Hown.out.lt y (by rw [HDL.out]; exact e)).2; omega)).trans hy3
      have hrow13 : w13.heap[b]? = some (.cells ((fd.map chgC).flatten).toArray 106 (0, 0)) := (hsame b (Array.getElem?_eq_some_iff.1 Hrow3.out).1 (fun e => by have := (Hown.out.lt b (by rw [HDL.out]; exact e)).2; omega)).trans Hrow3.out
      have hrecsA := Hrecs3.out.below hbx
      have hrecs13 := (hrecsA.grown HownA.out hgr13)
      have hwbr : wb.heap.size ≤ wr.heap.size := HW.out.only.size
      rw [← Hfdl.out] at hown13 ⊢
      have hrecs14 := hrecs13.snoc (Nat.le_trans hwbr hbw) hrow13
      have ho13 : Only (fun j => j = g) wb w13 := ((HW.out.only.trans (Only.of_below (F := fun _ => False) (Hb23.out)) (fun j hj => hj.elim)).trans (Only.of_below (F := fun _ => False) hbx) (fun j hj => hj.elim)).trans (Only.of_grown (F := fun j => (Value.slice ap DL cp).ownBlock = some j) hgr13 (fun j e => e)) (fun j hj => .inr (hvl j hj).1)
      obtain ⟨KL, hKL⟩ : ∃ KL, fd.length = KL := ⟨_, rfl⟩
      have hKk : KL = k := by rw [← hKL]; exact Hfdl.out
      rw [hKL] at hown13 hrecs14 ⊢
      have hbeh := rbehind_any hring13 (by omega) hn1 KL (by omega) (by have := HW.out.usedLe; omega) (by have := HW.out.place; omega) HW.out.num dg hdgl
      rw [← Hsv.out] at hbeh
      have Hbeh := Lib.hid hbeh; have Hrecs14 := Lib.hid hrecs14; have Hown13 := Lib.hid hown13; have Ho13 := Lib.hid ho13; have HKk := Lib.hid hKk; have HKL := Lib.hid hKL
      clear hbeh hrecs14 hown13 ho13 hrecs13 hrecsA hrow13 hring13 hgr13 hbx hsame hvl hKk hKL Hring3 Hrecs3 Hrow3 Hown3 HownA Hcell hy3 hk0 hk0n Hfdl
      go_wp2_with (first
        | (refine wpList_load_row rfl 23 _ rfl y rfl 23 sv.toArray (0, 0) _ hy13 Tryd.underlying23 rfl hsi2.out ?_)
        | (go_at_call 42; refine Hbeh.out.mono ?_))
      rintro e w14 ⟨rfl, hring14, ho14⟩
      have hown14 := own_keep Hown13.out fun j e => ho14.block j (Hown13.out.lt j e).2 (by have := (Hown13.out.lt j e).1; omega)
      have hrecs15 := Hrecs14.out.keep (w' := w14) (fun b' cs hb' e => ho14.block b' (Array.getElem?_eq_some_iff.1 e).1 (by omega))
      have ho15 := Ho13.out.trans ho14 (fun j hj => .inl hj)
      have hl5 : (done ++ [fd]).length = DL + 1 := by rw [List.length_append, HDL.out]; rfl
      have hTk : takes KL = T := by rw [HKk.out]; exact HT.out
      rw [hTk] at hring14
      have hW5 : RfW g gd first n (behind n m' KL dg) (used + T) pg m (some ⟨g13, 0, none⟩) cp13 (done ++ [fd]) wb w14 := by
        refine ⟨hring14, Nat.mod_lt _ (by omega), Nat.mod_lt _ (by omega), by have := HW.out.usedLe; omega, ⟨_, by rw [hl5]; exact hown14, hrecs15⟩, ho15, by rw [hl5]; have := HW.out.cnt; have := HDL.out; omega, ?_⟩
        rw [HW.out.eqn, Hone.out, HKk.out, show n - (used + T) = n - used - T from by omega]
        simp
      have HW5 := Lib.hid hW5
      clear hW5 hown14 hrecs15 hring14 ho14 ho15 hTk
      go_wp2
      go_roundg (n + 1 - (used + T))
      case measure => have := HW.out.usedLe; omega
      case rel => exact ⟨some ⟨g13, 0, none⟩, cp13, _, used + T, done ++ [fd], rfl, by rw [hl5], HW5.out⟩
end
end Go.Proofs.YtegdlpllljccgaaDoor
