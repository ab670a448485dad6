/-
  The reference's next: the record at the head, and its digest.
-/
import Derived.Test.YtegdlpllljccgaaDoorRrNextM
import Derived.Test.YtegdlpllljccgaaDoorRgBehind
import Derived.Test.YtegdlpllljccgaaDoorPrAt
set_option linter.unusedSimpArgs false
set_option linter.unusedVariables false
namespace Go.Proofs.YtegdlpllljccgaaDoor
open Go.RowKit Sh

def NextP (n : Nat) (pg : Nat → List UInt8) (free : Nat) (m : Mk) (w : World) (e : Ending) (w' : World) : Prop :=
  Below w.heap.size w w' ∧ ((¬ holds pg free m ∧ ∃ bs : List UInt8, bs.length = 32 ∧ e = .returned (.tuple #[.slice none 0 0, .agg (bs.map cu8).toArray, .int .i64 0])) ∨
  (holds pg free m ∧ ∃ b, e = .returned (.tuple #[.slice (some ⟨b, 0, none⟩) (kOf pg m) (kOf pg m), .agg ((dig (rawText pg m)).map cu8).toArray, .int .i64 0]) ∧ w.heap.size ≤ b ∧ w'.heap[b]? = some (.cells ((found pg m).map chgC).flatten.toArray 106 (0, 0))))
theorem results_tmp_cell_tmp {P : Program} {fn : Func} {p u v : Tmp} {ty : TypeId} (h : fn.results = #[.tmp u, .cell p ty, .tmp v]) (tmps : Array Value) (w : World) (g : Nat) (t : TypeId) (cs : Array Value) (fr : Nat × Nat) (d : TypeDesc)
    (hp : tmps.getD p undef = .pointer (some ⟨g, 0, none⟩)) (hg : w.heap[g]? = some (.cells cs t fr))
    (hu : P.underlying ty = some d) (hd : (match d with | .struct _ | .array _ _ => true | _ => false) = true) (hi : (P.info? ty).map (·.size) = some cs.size) (x z : Value) (hx : tmps.getD u undef = x) (hz : tmps.getD v undef = z) :
    (results fn tmps).run P w = .ok (.tuple #[x, .agg cs, z]) w := by
  have hp' : tmps[p]?.getD undef = .pointer (some ⟨g, 0, none⟩) := by simpa using hp
  have hx' : tmps[u]?.getD undef = x := by simpa using hx
  have hz' : tmps[v]?.getD undef = z := by simpa using hz
  simp [results, h, hp', hx', hz', asAddr, run_loadVar_row w g t ty cs fr d hg hu hd hi]
theorem RgAt.lastBytes {g gd first n used : Nat} {m : Mk} {w : World} (h : RgAt g gd first n m used w) : Bytes w.heap.size w (some ⟨g, 5, none⟩) 32 32 m.last := by
  refine ⟨h.last, Nat.le_refl _, by unfold maxLen; omega, .inr ⟨g, 5, rfl, h.lt, fun j hj => ?_⟩⟩
  have hl := h.last
  rw [h.cell]
  unfold ringCells
  rw [List.getElem?_toArray, Nat.add_comm 5 j]
  simp only [List.getElem?_cons_succ]
  rw [List.getElem?_append_left (by rw [List.length_map]; omega), List.getElem?_map, List.getElem?_eq_getElem (show j < m.last.length by omega)]
  simp [at8, List.getD_eq_getElem?_getD, List.getElem?_eq_getElem (show j < m.last.length by omega)]
/-- The boxes: the result in x, the sum in x + 1, the first page in y. -/
structure NxW (x : Nat) (sv : List Value) (w wr : World) : Prop where
  res : wr.heap[x]? = some (.cells z32.toArray 23 (0, 0))
  sum : wr.heap[x + 1]? = some (.cells sv.toArray 23 (0, 0))
  bel : Below x w wr
theorem NxW.below {x : Nat} {sv : List Value} {w wr w' : World} (h : NxW x sv w wr) (hb : Below wr.heap.size wr w') : NxW x sv w w' := by
  have hl := (Array.getElem?_eq_some_iff.1 h.sum).1
  exact ⟨(hb.block x (by omega)).trans h.res, (hb.block (x + 1) hl).trans h.sum, h.bel.trans (hb.mono (by omega))⟩
/-- The loop's world: the row of changes in block bl, the bytes in a row of their own. -/
structure NxL (bl : Nat) (wz : World) (av : Value) (na : Nat) (al : List UInt8) (rows : List (List Value)) (wr : World) : Prop where
  own : OwnB wz av na al wr
  ne : av.ownBlock ≠ some bl
  row : wr.heap[bl]? = some (.cells rows.flatten.toArray 106 (0, 0))
  lo : wz.heap.size ≤ bl
section
variable {bl : Nat} {wz wr w' : World} {av : Value} {na : Nat} {al : List UInt8} {rows : List (List Value)}
theorem NxL.lt (h : NxL bl wz av na al rows wr) : bl < wr.heap.size := (Array.getElem?_eq_some_iff.1 h.row).1
theorem NxL.keep (h : NxL bl wz av na al rows wr) (hb : Below wr.heap.size wr w') : NxL bl wz av na al rows w' := ⟨h.own.keep hb, h.ne, (hb.block bl h.lt).trans h.row, h.lo⟩
theorem NxL.join (h : NxL bl wz av na al rows wr) {v' : Value} {r : Nat} {al' : List UInt8} (hO : OwnB wz v' r al' w') (hg : wr.grownBy w' av.ownBlock) (hv : v'.ownBlock = av.ownBlock ∨ v'.ownBlock = some wr.heap.size) : NxL bl wz v' r al' rows w' := by
  refine ⟨hO, fun e => ?_, (hg.block bl h.lt (fun e => h.ne e.symm)).trans h.row, h.lo⟩
  rcases hv with h1 | h1
  · rw [h1] at e; exact h.ne e
  · rw [h1] at e
    have := h.lt
    have := Option.some.inj e
    omega
theorem NxL.turn (h : NxL bl wz av na al rows wr) {rows' : List (List Value)} (hr : w'.heap[bl]? = some (.cells rows'.flatten.toArray 106 (0, 0))) (hg : wr.grownBy w' (some bl)) : NxL bl wz av na al rows' w' := ⟨h.own.turn hg h.ne h.lo, h.ne, hr, h.lo⟩
end
section
variable {g gd first n used : Nat} {m : Mk} {S : St} {F : Nat → Prop} {w : World}
set_option maxRecDepth 100000 in
set_option maxHeartbeats 8000000 in
theorem rnext_any (h : RgAt g gd first n m used w) (hD : RD S F gd w) (hG : Good S) (hB : Byt S) (ho : S.off = false) (hcnt : S.ats.length ≤ 1048576) (hin : first + n ≤ S.firm.length) (hn0 : 0 < n) (hn1 : n ≤ 4096) (hpl : m.place < n) (hnum : m.num < 18446744073709551616) (hu : used ≤ n) :
    Calls Tryd.prog 41 #[.pointer (some ⟨g, 0, none⟩)] w (NextP n (pgOf (imgB S) first n) (n - used) m w) := by
  have hl := h.last
  have hf1 : first ≤ 4096 := by have := hG.le; omega
  obtain ⟨pg, Hpg⟩ : ∃ pg, Hid (pg = pgOf (imgB S) first n) := ⟨_, rfl⟩
  have hP64 : ∀ i, (pg i).length = 64 := fun i => by rw [Hpg.out]; exact pg_len hB hin hn0 i
  have hat : ∀ (W : World), Below w.heap.size w W → ∀ i : Nat, i ≤ 8192 → Calls Tryd.prog 59 #[.pointer (some ⟨g, 0, none⟩), .int .i64 i] W (ReadPost ((pg i).map cu8) 0 W) := fun W hW i hi => by
    have := rat_any (h.below hW) (hD.below hW) hG hcnt hn0 hn1 hf1 i hi
    have hm := Nat.mod_lt i hn0
    rw [img_read hB ho (by omega)] at this
    rw [Hpg.out]
    exact this
  have hrow : ∀ W : World, Below w.heap.size w W → RgAt g gd first n m used W := fun W hW => h.below hW
  rw [← Hpg.out]
  have Hat := Lib.hid hat; have HP64 := Lib.hid hP64; have Hrow := Lib.hid hrow
  have hglt := h.lt
  clear hat hP64 hrow h hD hG hB ho hcnt hin Hpg
  obtain ⟨free, hfree⟩ : ∃ free, n - used = free := ⟨_, rfl⟩
  rw [hfree]
  obtain ⟨zv, Hzv⟩ : ∃ zv : List Value, Hid (zv = z32) := ⟨_, rfl⟩
  have h1 : ((w.alloc (.cells z32.toArray 23)).alloc (.cells z32.toArray 23)).heap[w.heap.size]? = some (.cells z32.toArray 23 (0, 0)) := by
    rw [Below.heap_alloc _ _ _ (by simp)]; exact heap_alloc_new w _
  have h2 : ((w.alloc (.cells z32.toArray 23)).alloc (.cells z32.toArray 23)).heap[w.heap.size + 1]? = some (.cells zv.toArray 23 (0, 0)) := by
    have := heap_alloc_new (w.alloc (.cells z32.toArray 23)) (.cells z32.toArray 23)
    rw [Hzv.out]
    simpa using this
  have hb2 : Below w.heap.size w ((w.alloc (.cells z32.toArray 23)).alloc (.cells z32.toArray 23)) := ((Below.refl _ _).alloc (Nat.le_refl _) _).alloc (by simp) _
  have hN0 : NxW w.heap.size zv w ((w.alloc (.cells z32.toArray 23)).alloc (.cells z32.toArray 23)) := ⟨h1, h2, hb2⟩
  clear h1 h2
  go_enter Tryd.func41, Tryd.ntmps41
  go_upto_region 2 with (first
    | (refine wpList_alloc_arr rfl 23 rfl _ alloc32 ?_))
  try simp only [World.size_alloc, Nat.add_assoc, Nat.reduceAdd]
  generalize (w.alloc (.cells z32.toArray 23)).alloc (.cells z32.toArray 23) = wa at hN0 hb2 ⊢
  obtain ⟨x, hx⟩ : ∃ x, w.heap.size = x := ⟨_, rfl⟩
  rw [hx] at hN0 hglt hb2 ⊢
  have Hx := Lib.hid hx
  have hrg := Hrow.out wa (by rw [hx]; exact hb2)
  obtain ⟨_, _, cN, cP, cM⟩ := hrg.cells
  have hcat := Hat.out wa (by rw [hx]; exact hb2) m.place (by omega)
  obtain ⟨p, Hp⟩ : ∃ p, Hid (p = pg m.place) := ⟨_, rfl⟩
  have hp64 : p.length = 64 := by rw [Hp.out]; exact HP64.out _
  rw [← Hp.out] at hcat
  obtain ⟨pv, Hpv⟩ : ∃ pv : List Value, Hid (pv = p.map cu8) := ⟨_, rfl⟩
  rw [← Hpv.out] at hcat
  have Hcat := Lib.hid hcat; have HN0 := Lib.hid hN0
  clear hx hcat hN0 hrg cN cM
  go_wp2_with (go_at_call 59; refine Hcat.out.mono ?_)
  rintro e wb ⟨rfl, hbB⟩
  have hNB := HN0.out.below hbB
  have hpvl : pv.length = 64 := by rw [Hpv.out, List.length_map, hp64]
  have hpi : Hid ((Tryd.prog.info? 63).map (·.size) = some pv.toArray.size) := by rw [List.size_toArray, hpvl]; exact info64
  have hpz : Hid (zeros64.size = pv.toArray.size) := by rw [show pv.toArray.size = 64 from by rw [List.size_toArray, hpvl]]; exact (rfl : zeros64.size = 64)
  have hp1 : Hid (pv.toArray.all (·.oneCell') = true) := by rw [Hpv.out]; exact bytes_one _
  clear HN0 Hcat hb2 hbB hpvl cP
  go_upto_region 3 with (first
    | (refine wpList_alloc_arr rfl 63 rfl _ alloc64 ?_)
    | (refine wpList_store_new rfl 63 _ _ rfl wb.heap.size rfl pv.toArray rfl rfl 63 _ hpi.out hpz.out hp1.out ?_))
  have hbC : Below wb.heap.size wb (wb.alloc (.cells pv.toArray 63)) := (Below.refl _ _).alloc (Nat.le_refl _) _
  have hyC : PgAt wb.heap.size p (wb.alloc (.cells pv.toArray 63)) := ⟨hp64, by rw [← Hpv.out]; exact heap_alloc_new wb _⟩
  have hNC := hNB.below hbC
  generalize wb.alloc (.cells pv.toArray 63) = wc at hbC hyC hNC ⊢
  obtain ⟨y, hy⟩ : ∃ y, wb.heap.size = y := ⟨_, rfl⟩
  rw [hy] at hyC ⊢
  have hxy : x + 1 < y := by rw [← hy]; exact (Array.getElem?_eq_some_iff.1 hNB.sum).1
  clear hy hbC hNB hpz
  obtain ⟨b0, hb0⟩ : ∃ b0, (at8 p 0).toNat = b0 := ⟨_, rfl⟩
  obtain ⟨k, hk⟩ : ∃ k, (at8 p 9).toNat = k := ⟨_, rfl⟩
  have hb0l : b0 < 256 := by rw [← hb0]; exact (at8 p 0).toNat_lt
  have hkl : k < 256 := by rw [← hk]; exact (at8 p 9).toNat_lt
  have c9 : wc.cell? ⟨y, 9, none⟩ = some (.int .u8 k) := by rw [hyC.cell (by omega), ← hk]; rfl
  have c0 : wc.cell? ⟨y, 0, none⟩ = some (.int .u8 b0) := by rw [hyC.cell (by omega), ← hb0]; rfl
  obtain ⟨ob, hob⟩ : ∃ ob : Bool, decide (b0 = 84) = ob := ⟨_, rfl⟩
  have hob0 : ob = true ↔ p.take (1 + 0) = 84 :: leN 0 m.num := by
    rw [← hob, decide_eq_true_iff]
    have e : p.take (1 + 0) = [at8 p 0] := by
      match p, hp64 with
      | a :: r, _ => rfl
    rw [e]
    have e2 : (84 :: leN 0 m.num : List UInt8) = [84] := rfl
    rw [e2, List.cons.injEq]
    constructor
    · intro h; exact ⟨UInt8.toNat_inj.1 (hb0.trans h), rfl⟩
    · rintro ⟨h, _⟩; rw [← hb0, h]; rfl
  have hob' : ((b0 : Int) == 84) = ob := by
    rw [← hob]
    by_cases h : b0 = 84
    · rw [decide_eq_true h, beq_iff_eq]; omega
    · rw [decide_eq_false h, beq_eq_false_iff_ne]; omega
  have Hob0 := Lib.hid hob0; have HyC := Lib.hid hyC; have HNC := Lib.hid hNC; have Hk := Lib.hid hk; have Hb0 := Lib.hid hb0
  clear hob hob0 hyC hNC hk hb0
  go_upto_region 8 with (fail)
  clear hob' c9 c0
  go_loopg [9, 10] 8 (fun gg okv i wr => ∃ (q : Nat) (ob : Bool), q ≤ 8 ∧ gg = 8 - q ∧ i = .int .i64 q ∧ okv = .bool ob ∧ Hid (ob = true ↔ p.take (1 + q) = 84 :: leN q m.num) ∧ Below wc.heap.size wc wr)
  case atStart => exact ⟨0, ob, by omega, rfl, rfl, rfl, Hob0, Below.refl _ _⟩
  case round =>
    clear Hob0
    obtain ⟨q, ob, hq, rfl, rfl, rfl, Hob, hbw⟩ := hrel
    by_cases hlt : q < 8
    · have hlt' : (q : Int) < 8 := by omega
      have hyW := HyC.out.below hbw
      obtain ⟨a, ha⟩ : ∃ a, 1 + q = a := ⟨_, rfl⟩
      have ha64 : a < 64 := by omega
      have wa1 : IntKind.i64.wrap (1 + (q : Int)) = (a : Int) := by rw [IntWalk.i64_in _ (by omega)]; omega
      have wa2 : IntKind.i64.wrap (a : Int) = (a : Int) := IntWalk.i64_in _ (by omega)
      obtain ⟨b1, hb1⟩ : ∃ b1, (at8 p a).toNat = b1 := ⟨_, rfl⟩
      obtain ⟨b2, hb2⟩ : ∃ b2, (UInt8.ofNat (m.num / 2 ^ (8 * q))).toNat = b2 := ⟨_, rfl⟩
      have c1 : wr.cell? ⟨y, a, none⟩ = some (.int .u8 b1) := by
        have := hyW.cell (j := a) ha64
        rw [← hb1]; exact this
      have hxw : Below w.heap.size w wr := by rw [Hx.out]; exact HNC.out.bel.trans (hbw.mono (by have := (Array.getElem?_eq_some_iff.1 HNC.out.sum).1; omega))
      obtain ⟨_, _, _, _, cN⟩ := (Hrow.out wr hxw).cells
      obtain ⟨v8, hv8⟩ : ∃ v8, 8 * q = v8 := ⟨_, rfl⟩
      have w8 : IntKind.i64.wrap (8 * (q : Int)) = (v8 : Int) := by rw [IntWalk.i64_in _ (by omega)]; omega
      have w8b : IntKind.i64.wrap (v8 : Int) = (v8 : Int) := IntWalk.i64_in _ (by omega)
      have n1 : (v8 : Int).toNat = v8 := by omega
      have n3 : ¬ (v8 : Int) < 0 := by omega
      have hv : IntKind.u8.wrap ((m.num : Int) / 2 ^ v8) = (b2 : Int) := by rw [← hb2, ← hv8, byteN m.num (8 * q), bz_eq]
      have hmin : min v8 64 = v8 := by omega
      have hvm : (m.num : Int) / 2 ^ min v8 64 % 256 = (b2 : Int) := by rw [hmin, ← hv, IntKind.wrap_u8']
      have hvn : (m.num : Int) / 2 ^ v8 % 256 = (b2 : Int) := by rw [← hv, IntKind.wrap_u8']
      have hnext : p.take (1 + (q + 1)) = p.take (1 + q) ++ [at8 p a] := by rw [← ha, ← Nat.add_assoc]; exact take_byte (by omega)
      have hleN : (84 :: leN (q + 1) m.num : List UInt8) = (84 :: leN q m.num) ++ [UInt8.ofNat (m.num / 2 ^ (8 * q))] := by rw [leN_succ]; rfl
      have hob2 : (p.take (1 + (q + 1)) = 84 :: leN (q + 1) m.num) ↔ ob = true ∧ b1 = b2 := by
        rw [hnext, hleN, Hob.out]
        constructor
        · intro e
          have := List.append_inj e (by rw [List.length_take, List.length_cons, leN_length]; omega)
          refine ⟨this.1, ?_⟩
          rw [← hb1, ← hb2, (List.cons.inj this.2).1]
        · rintro ⟨e1, e2⟩
          rw [e1, UInt8.toNat_inj.1 (hb1.trans (e2.trans hb2.symm))]
      have Hob2 := Lib.hid hob2
      clear hnext hleN hob2 Hob hyW hxw hb1 hb2 ha hv8
      go_upto_region 10 with (fail)
      cases ob with
      | false =>
        go_quiet (fail)
        have hbd := hbw.trans (below_drewN wr nq _)
        generalize wr.drewN nq = wd at hbd ⊢
        clear c1 cN
        go_wp2
        go_roundg (8 - (q + 1))
        case measure => omega
        case rel => exact ⟨q + 1, false, by omega, rfl, by go_num, rfl, by show false = true ↔ _; rw [Hob2.out]; simp, hbd⟩
      | true =>
        by_cases heq : b1 = b2
        · subst heq
          go_quiet (fail)
          have hbd := hbw.trans (below_drewN wr nq _)
          generalize wr.drewN nq = wd at hbd ⊢
          clear c1 cN
          go_wp2
          go_roundg (8 - (q + 1))
          case measure => omega
          case rel => exact ⟨q + 1, true, by omega, rfl, by go_num, rfl, by show true = true ↔ _; rw [Hob2.out]; simp, hbd⟩
        · have heq' : ¬ (b1 : Int) = (b2 : Int) := by omega
          have Heq := Lib.hid heq
          clear heq
          go_quiet (fail)
          have hbd := hbw.trans (below_drewN wr nq _)
          generalize wr.drewN nq = wd at hbd ⊢
          clear c1 cN
          go_wp2
          go_roundg (8 - (q + 1))
          case measure => omega
          case rel => exact ⟨q + 1, false, by omega, rfl, by go_num, by rw [beq_eq_false_iff_ne.2 heq'], by show false = true ↔ _; rw [Hob2.out]; simp [Heq.out], hbd⟩
    · obtain rfl : q = 8 := by omega
      have hlt' : ¬ (8 : Int) < 8 := by omega
      go_upto_region 11 with (fail)
      clear hlt' hlt
      have hyW := HyC.out.below hbw
      have hNW := HNC.out.below hbw
      have hxw : Below w.heap.size w wr := by rw [Hx.out]; exact hNW.bel
      have hrW := Hrow.out wr hxw
      obtain ⟨_, _, cN, cP, _⟩ := hrW.cells
      have c37 := hrW.cell37
      obtain ⟨T, hT⟩ : ∃ T, takes k = T := ⟨_, rfl⟩
      have htk : ∀ W, Calls Tryd.prog 21 #[.int .i64 k] W fun e w' => e = .returned (.int .i64 T) ∧ w' = W := fun W => by rw [← hT]; exact rtakes_any k (by omega) W
      have hkO : kOf pg m = k := by unfold kOf; rw [← Hp.out]; exact Hk.out
      have hbeg : begins pg free m ↔ ob = true ∧ 1 ≤ k ∧ k ≤ 60 ∧ T ≤ free := by
        unfold begins
        rw [hkO, ← Hp.out, hT, Hob.out]
        have e10 : p.take 10 = p.take (1 + 8) ++ [at8 p 9] := take_byte (by omega)
        have eh : head10 m.num k = (84 :: leN 8 m.num) ++ [at8 p 9] := by
          unfold head10
          rw [← le8_eq]
          have : UInt8.ofNat k = at8 p 9 := by rw [← Hk.out]; simp
          rw [this]; rfl
        rw [e10, eh]
        constructor
        · rintro ⟨h1, h2⟩; exact ⟨List.append_cancel_right h1, h2⟩
        · rintro ⟨h1, h2⟩; exact ⟨by rw [h1], h2⟩
      have wS : IntKind.i64.wrap ((n : Int) - (used : Int)) = (free : Int) := by rw [IntWalk.i64_in _ (by omega)]; omega
      have wSb : IntKind.i64.wrap (free : Int) = (free : Int) := IntWalk.i64_in _ (by omega)
      have hzb : ∃ bs : List UInt8, bs.length = 32 ∧ zv.toArray = (bs.map cu8).toArray := ⟨List.replicate 32 0, List.length_replicate, by rw [Hzv.out, List.map_replicate]; rfl⟩
      have Hzb := Lib.hid hzb
      have hzl : zv.length = 32 := by rw [Hzv.out]; rfl
      have hsi : Hid ((Tryd.prog.info? 23).map (·.size) = some zv.length) := by rw [hzl]; exact (by kernel_rfl : (Tryd.prog.info? 23).map (·.size) = some 32)
      have hsi2 : Hid ((Tryd.prog.info? 23).map (·.size) = some zv.toArray.size) := by rw [List.size_toArray, hzl]; exact (by kernel_rfl : (Tryd.prog.info? 23).map (·.size) = some 32)
      have hsz : Hid (z32.toArray.size = zv.toArray.size) := by rw [show zv.toArray.size = 32 from by rw [List.size_toArray, hzl]]; exact (rfl : z32.toArray.size = 32)
      have hs1 : Hid (zv.toArray.all (·.oneCell') = true) := by rw [Hzv.out]; exact all_oneCell_toArray (fun v hv => by rw [(List.mem_replicate.1 hv).2]; rfl)
      have Hbeg := Lib.hid hbeg; have Htk := Lib.hid htk; have HyW := Lib.hid hyW; have HNW := Lib.hid hNW; have HkO := Lib.hid hkO; have HT := Lib.hid hT
      clear hbeg htk hyW hNW hxw hrW hkO hT hzb hzl Hob hbw HyC HNC
      have hcase : ob = false ∨ (ob = true ∧ k < 1) ∨ (ob = true ∧ 1 ≤ k ∧ 60 < k) ∨ (ob = true ∧ 1 ≤ k ∧ k ≤ 60 ∧ free < T) ∨ (ob = true ∧ 1 ≤ k ∧ k ≤ 60 ∧ T ≤ free) := by
        cases ob
        · exact .inl rfl
        · right; simp; omega
      rcases hcase with rfl | ⟨rfl, h2⟩ | ⟨rfl, h3, h4⟩ | ⟨rfl, h3, h4, h5⟩ | ⟨rfl, h3, h4, h5⟩
      case' inl =>
        have hnb : ¬ begins pg free m := fun h => by have := (Hbeg.out.1 h).1; cases this
        go_quiet ((go_at_call 21; exact Calls.quiet_of_same (Htk.out _)))
      case' inr.inl =>
        have hnb : ¬ begins pg free m := fun h => by have := Hbeg.out.1 h; omega
        have h0' : (k : Int) < 1 := by omega
        go_quiet ((go_at_call 21; exact Calls.quiet_of_same (Htk.out _)))
      case' inr.inr.inl =>
        have hnb : ¬ begins pg free m := fun h => by have := Hbeg.out.1 h; omega
        have h0' : ¬ (k : Int) < 1 := by omega
        have h1' : (60 : Int) < k := by omega
        go_quiet ((go_at_call 21; exact Calls.quiet_of_same (Htk.out _)))
      case' inr.inr.inr.inl =>
        have hnb : ¬ begins pg free m := fun h => by have := Hbeg.out.1 h; omega
        have h0' : ¬ (k : Int) < 1 := by omega
        have h1' : ¬ (60 : Int) < k := by omega
        have h2' : (free : Int) < T := by omega
        go_quiet ((go_at_call 21; exact Calls.quiet_of_same (Htk.out _)))
      case inr.inr.inr.inr =>
        have hyb : begins pg free m := Hbeg.out.2 ⟨rfl, h3, h4, h5⟩
        have h0' : ¬ (k : Int) < 1 := by omega
        have h1' : ¬ (60 : Int) < k := by omega
        have h2' : ¬ (free : Int) < T := by omega
        go_quiet ((go_at_call 21; exact Calls.quiet_of_same (Htk.out _)))
        have hNz := HNW.out.below (below_drewN wr nq _)
        have hyz := HyW.out.below (below_drewN wr nq _)
        generalize wr.drewN nq = wz at hNz hyz ⊢
        clear cN cP c37 wS wSb h0' h1' h2' Hbeg HNW HyW
        have hbz : Below w.heap.size w wz := by rw [Hx.out]; exact hNz.bel
        have hyl := hyz.lt
        obtain ⟨J, hJ⟩ : ∃ J, (k + 15) / 16 = J := ⟨_, rfl⟩
        have j1 : IntKind.i64.wrap ((k : Int) + 15) = (k : Int) + 15 := IntWalk.i64_in _ (by omega)
        have j2 : Int.tdiv ((k : Int) + 15) 16 = (J : Int) := by rw [Int.tdiv_eq_ediv_of_nonneg (by omega)]; omega
        have j3 : IntKind.i64.wrap (J : Int) = (J : Int) := IntWalk.i64_in _ (by omega)
        have hlastB := (Hrow.out wz hbz).lastBytes
        have hO0 : OwnB wz (.slice none 0 0) 0 [] wz := OwnB.start (Below.refl _ _)
        obtain ⟨hd, Hhd⟩ : ∃ hd, Hid (hd = p.take 10) := ⟨_, rfl⟩
        have hten : ∀ W : World, Below wz.heap.size wz W → Bytes W.heap.size W (some ⟨y, 0, none⟩) 10 64 hd := fun W hW => by
          have := (hyz.below hW).bytes 0 10 (by omega)
          rw [Hhd.out]; exact this
        have Hten := Lib.hid hten; have HlastB := Lib.hid hlastB; have HO0 := Lib.hid hO0; have HNz := Lib.hid hNz; have Hyz := Lib.hid hyz; have Hbz := Lib.hid hbz
        clear hten hlastB hO0 hNz hyz hbz
        go_upto_region 14 with (fail)
        clear j1 j2
        go_upto_region 15 with (first
          | (refine wpList_joinL wz wz rfl _ _ rfl _ 0 [] rfl HO0.out _ _ 32 32 m.last rfl HlastB.out 32 rfl (by omega) ?_; intro v3 w3 HO3 Hg3 Hv3))
        go_upto_region 16 with (first
          | (refine wpList_joinL wz w3 rfl _ _ rfl v3 32 _ rfl HO3.out _ _ 10 64 hd rfl (Hten.out w3 HO3.out.below) 42 rfl (by omega) ?_; intro v4 w4 HO4 Hg4 Hv4))
        clear HO0 HO3 Hg3 Hg4 Hv3 Hv4 Hten HlastB
        have hmk := make_rchgs k (by omega) w4
        obtain ⟨cs0, Hcs0⟩ : ∃ cs0 : List Value, Hid (cs0 = (List.replicate k zChg).flatten) := ⟨_, rfl⟩
        rw [← Hcs0.out] at hmk
        have hb5 : Below w4.heap.size w4 (w4.alloc (.cells cs0.toArray 106)) := (Below.refl _ _).alloc (Nat.le_refl _) _
        have hl5 : (w4.alloc (.cells cs0.toArray 106)).heap[w4.heap.size]? = some (.cells cs0.toArray 106 (0, 0)) := heap_alloc_new w4 _
        have hO5 := HO4.out.keep hb5
        have hbl : ∀ j, v4.ownBlock = some j → j ≠ w4.heap.size := fun j e => by have := (HO4.out.own.lt j e).2; omega
        have hzbl : wz.heap.size ≤ w4.heap.size := HO4.out.below.size
        obtain ⟨rs, Hrs⟩ : ∃ rs, Hid (rs = rest pg m.place k) := ⟨_, rfl⟩
        have hrl : rs.length + 1 = T := by rw [Hrs.out]; unfold rest; rw [List.length_map, List.length_range, HT.out]; have := takes_pos k; have := HT.out; omega
        have hrget : ∀ q, q + 1 < T → rs.getD q [] = pg (m.place + (q + 1)) := fun q hq => by
          rw [Hrs.out]; unfold rest
          have hT2 := HT.out
          rw [List.getD_eq_getElem?_getD, List.getElem?_map, List.getElem?_range (by omega)]
          simp [Nat.add_comm 1 q]
        have hr64 : ∀ q, q + 1 < T → (rs.getD q []).length = 64 := fun q hq => by rw [hrget q hq]; exact HP64.out _
        have hTJ : T = 1 + J + k := by have := HT.out; unfold takes at this; omega
        obtain ⟨A, HA⟩ : ∃ A : Nat → Nat, Hid (A = fun c => num4 (rs.getD (c / 16) []) (4 * (c % 16))) := ⟨_, rfl⟩
        obtain ⟨V, HV⟩ : ∃ V : Nat → List UInt8, Hid (V = fun c => rs.getD (J + c) []) := ⟨_, rfl⟩
        have hV64 : ∀ c, c < k → (V c).length = 64 := fun c hc => by rw [HV.out]; exact hr64 _ (by omega)
        have hL0 : NxL w4.heap.size wz v4 (42 + 64 * 0) ((m.last ++ hd) ++ (rs.take 0).flatten) (partR A V k (min k (16 * 0)) (0 - J)) (w4.alloc (.cells cs0.toArray 106)) := by
          refine ⟨by rw [List.take_zero, List.flatten_nil, List.append_nil]; exact hO5, fun e => hbl _ e rfl, ?_, hzbl⟩
          rw [Nat.mul_zero, Nat.min_zero, Nat.zero_sub, partR_zero, ← Hcs0.out]; exact hl5
        have hJ5 : J ≤ 5 := by omega
        have hT1 : 1 ≤ T := by omega
        have hT65 : T ≤ 76 := by omega
        have HTJ := Lib.hid hTJ
        have HL0 := Lib.hid hL0; have Hrget := Lib.hid hrget; have Hr64 := Lib.hid hr64; have Hrl := Lib.hid hrl; have HV64 := Lib.hid hV64
        have hcnext : (HNz.out).bel = (HNz.out).bel := rfl
        clear hTJ hL0 hrget hr64 hrl hV64 hcnext hO5 hl5 hb5 hbl HO4
        go_upto_region 18 with (fail)
        clear hmk
        generalize w4.alloc (.cells cs0.toArray 106) = w5 at HL0 ⊢
        obtain ⟨bl, hbl⟩ : ∃ bl, w4.heap.size = bl := ⟨_, rfl⟩
        rw [hbl] at HL0 ⊢
        clear hbl hzbl Hcs0
        obtain ⟨tx, Htx⟩ : ∃ tx, Hid (tx = m.last ++ hd) := ⟨_, rfl⟩
        rw [← Htx.out] at HL0
        go_loopg [12, 14, 15, 16, 17, 18] (T - 1) (fun gg av i v15 v16 v17 v18 wr => ∃ q : Nat, q + 1 ≤ T ∧ gg = T - (q + 1) ∧ i = .int .i64 ((q + 1 : Nat) : Int) ∧ NxL bl wz av (42 + 64 * q) (tx ++ (rs.take q).flatten) (partR A V k (min k (16 * q)) (q - J)) wr)
        case atStart => exact ⟨0, by omega, rfl, rfl, HL0.out⟩
        case round =>
          clear HL0
          obtain ⟨q, hq, rfl, rfl, hL⟩ := hrel
          obtain ⟨q1, hq1⟩ : ∃ q1, q + 1 = q1 := ⟨_, rfl⟩
          rw [hq1]
          have hbw : Below wz.heap.size wz wr := hL.own.below
          have hbww : Below w.heap.size w wr := Hbz.out.trans (hbw.mono Hbz.out.size)
          by_cases hlt : q1 < T
          · have hlt' : (q1 : Int) < (T : Int) := by omega
            obtain ⟨_, _, _, cP, _⟩ := (Hrow.out wr hbww).cells
            obtain ⟨s, hs⟩ : ∃ s, m.place + q1 = s := ⟨_, rfl⟩
            have ws : IntKind.i64.wrap ((m.place : Int) + (q1 : Int)) = (s : Int) := by rw [IntWalk.i64_in _ (by omega)]; omega
            have wsb : IntKind.i64.wrap (s : Int) = (s : Int) := IntWalk.i64_in _ (by omega)
            have hcat := Hat.out wr hbww s (by omega)
            have hpgc := Hrget.out q (by omega)
            rw [hq1, hs] at hpgc
            obtain ⟨pq, Hpq⟩ : ∃ pq, Hid (pq = rs.getD q []) := ⟨_, rfl⟩
            have hpq64 : pq.length = 64 := by rw [Hpq.out]; exact Hr64.out q (by omega)
            rw [← hpgc, ← Hpq.out] at hcat
            obtain ⟨qv, Hqv⟩ : ∃ qv : List Value, Hid (qv = pq.map cu8) := ⟨_, rfl⟩
            rw [← Hqv.out] at hcat
            have hqvl : qv.length = 64 := by rw [Hqv.out, List.length_map, hpq64]
            have hqi : Hid ((Tryd.prog.info? 63).map (·.size) = some qv.toArray.size) := by rw [List.size_toArray, hqvl]; exact info64
            have hqz : Hid (zeros64.size = qv.toArray.size) := by rw [show qv.toArray.size = 64 from by rw [List.size_toArray, hqvl]]; exact (rfl : zeros64.size = 64)
            have hqo : Hid (qv.toArray.all (·.oneCell') = true) := by rw [Hqv.out]; exact bytes_one _
            have Hcat := Lib.hid hcat; have HLw := Lib.hid hL
            clear hcat hL hpgc hs hqvl hbww hbw
            have hone := fun W => Htk.out W
            go_upto_region 20 with (first
              | (go_at_call 21; refine (hone _).mono ?_; rintro e w' ⟨rfl, rfl⟩))
            go_wp2_with (go_at_call 59; refine Hcat.out.mono ?_)
            rintro e wq ⟨rfl, hbq⟩
            have hLq := HLw.out.keep hbq
            clear Hcat HLw hbq cP ws wsb
            go_upto_region 21 with (first
              | (refine wpList_alloc_arr rfl 63 rfl _ alloc64 ?_)
              | (refine wpList_store_new rfl 63 _ _ rfl wq.heap.size rfl qv.toArray rfl rfl 63 _ hqi.out hqz.out hqo.out ?_))
            have hby : Below wq.heap.size wq (wq.alloc (.cells qv.toArray 63)) := (Below.refl _ _).alloc (Nat.le_refl _) _
            have hPy : PgAt wq.heap.size pq (wq.alloc (.cells qv.toArray 63)) := ⟨hpq64, by rw [← Hqv.out]; exact heap_alloc_new wq _⟩
            have hLy := hLq.keep hby
            have hbly : bl < wq.heap.size := hLq.lt
            have hoy : ∀ j, u12.ownBlock = some j → j < wq.heap.size := fun j e => (hLq.own.own.lt j e).2
            generalize wq.alloc (.cells qv.toArray 63) = wy at hby hPy hLy ⊢
            obtain ⟨y2, hy2⟩ : ∃ y2, wq.heap.size = y2 := ⟨_, rfl⟩
            rw [hy2] at hPy hbly hoy ⊢
            have HLy := Lib.hid hLy; have HPy := Lib.hid hPy; have Hoy := Lib.hid hoy
            have hBq := hPy.bytes 0 64 (by omega)
            rw [List.drop_zero, List.take_of_length_le (by omega)] at hBq
            have HBq := Lib.hid hBq
            clear hy2 hby hLq hLy hPy hBq hqz hqo hoy
            go_upto_region 22 with (first
              | (refine wpList_joinL wz wy rfl _ _ rfl _ _ _ rfl HLy.out.own _ _ 64 64 pq rfl HBq.out (42 + 64 * q1) (by omega) (by omega) ?_; intro v7 w7 HO7 Hg7 Hv7))
            have hL7 := HLy.out.join HO7.out Hg7.out Hv7.out
            have hP7 : PgAt y2 pq w7 := ⟨hpq64, (Hg7.out.block y2 HPy.out.lt (fun e => by have := Hoy.out y2 e.symm; omega)).trans HPy.out.2⟩
            have htxq : tx ++ (rs.take q).flatten ++ pq = tx ++ (rs.take q1).flatten := by
              rw [← hq1, take_flat (by have := Hrl.out; omega), ← Hpq.out, List.append_assoc]
            rw [htxq] at hL7
            have hv7y : ∀ j, v7.ownBlock = some j → j ≠ y2 := fun j e => by
              rcases Hv7.out with h1 | h1
              · rw [h1] at e; have := Hoy.out j e; omega
              · rw [h1] at e; have := Option.some.inj e; have := HPy.out.lt; omega
            have HL7 := Lib.hid hL7; have HP7 := Lib.hid hP7; have Hv7y := Lib.hid hv7y
            clear hL7 hP7 htxq hv7y HO7 Hg7 Hv7 HLy HPy HBq Hoy
            have j3 : IntKind.i64.wrap (J : Int) = (J : Int) := IntWalk.i64_in _ (by omega)
            by_cases hqJ : J < q1
            · have hqJ' : (J : Int) < (q1 : Int) := by omega
              obtain ⟨b, hb⟩ : ∃ b, q - J = b := ⟨_, rfl⟩
              have hbk : b < k := by have := HTJ.out; omega
              have hmk1 : min k (16 * q) = k := by omega
              have hmk2 : min k (16 * q1) = k := by omega
              obtain ⟨d1, hd1⟩ : ∃ d1, q1 - J = d1 := ⟨_, rfl⟩
              have wd1 : IntKind.i64.wrap ((q1 : Int) - (J : Int)) = (d1 : Int) := by rw [IntWalk.i64_in _ (by omega)]; omega
              have wd2 : IntKind.i64.wrap ((d1 : Int) - 1) = (b : Int) := by rw [IntWalk.i64_in _ (by omega)]; omega
              have wd3 : IntKind.i64.wrap (b : Int) = (b : Int) := IntWalk.i64_in _ (by omega)
              have hbk' : (b : Int) < (k : Int) := by omega
              have hVb : V b = pq := by rw [HV.out, Hpq.out]; show rs.getD (J + b) [] = _; rw [show J + b = q from by omega]
              have hL7 := HL7.out
              rw [hmk1, hb] at hL7
              have hqx := HP7.out.2
              rw [← Hqv.out] at hqx
              have hrow7 := hL7.row
              have hfl : (partR A V k k b).flatten.length = k * 65 := by
                rw [flat_lenS 65 _ (partR_rows HV64.out k b), partR_length]
              have hqol : ∀ u ∈ qv.toArray.toList, u.oneCell' = true := fun u hu => by
                rw [Hqv.out] at hu
                obtain ⟨z, _, rfl⟩ := List.mem_map.1 (by simpa using hu)
                rfl
              have HL7b := Lib.hid hL7; have Hqol := Lib.hid hqol
              clear hL7 HL7 hqol
              go_upto_region 19 with (first
                | (refine wpList_load_row rfl 63 _ rfl y2 rfl 63 qv.toArray (0, 0) _ hqx Tryd.underlying63 rfl hqi.out ?_)
                | (refine wpList_store_into rfl 63 _ _ rfl bl (b * 65 + 1) qv.toArray rfl rfl (partR A V k k b).flatten 106 hrow7 hqi.out (by rw [List.size_toArray, hfl, Hqv.out, List.length_map, hpq64]; omega) Hqol.out ?_; intro w8 Hx8 Hg8))
              have hrow8 : w8.heap[bl]? = some (.cells (partR A V k k (b + 1)).flatten.toArray 106 (0, 0)) := by
                rw [← partR_page HV64.out hbk, hVb, ← Hqv.out]
                have := Hx8.out
                simpa using this
              have hL8 := HL7b.out.turn hrow8 Hg8.out
              have hb1 : b + 1 = q1 - J := by omega
              have e8 : partR A V k k (b + 1) = partR A V k (min k (16 * q1)) (q1 - J) := by rw [hmk2, hb1]
              rw [e8] at hL8
              clear e8
              have HL8 := Lib.hid hL8
              clear hL8 hrow8 Hx8 Hg8 hrow7 hqx HL7b HP7 hVb hd1 wd1 wd2 wd3 hb hmk1 hmk2
              go_wp2
              go_roundg (T - (q1 + 1))
              case measure => omega
              case rel => exact ⟨q1, by omega, rfl, by go_num, HL8.out⟩
            · have hqJ' : ¬ (J : Int) < (q1 : Int) := by omega
              have hqJ2 : q1 ≤ J := by omega
              have hb0 : q - J = 0 := by omega
              have hb1 : q1 - J = 0 := by omega
              have hm1 : min k (16 * q) = 16 * q + 0 := by omega
              have hL7 := HL7.out
              rw [hb0, hm1] at hL7
              have HL7b := Lib.hid hL7
              obtain ⟨I, hI⟩ : ∃ I, 16 * q = I := ⟨_, rfl⟩
              rw [hI] at HL7b
              have hIk : I < k := by omega
              have hPP : ∀ W : World, w7.grownBy W (some bl) → PgAt y2 pq W := fun W hW => ⟨hpq64, (hW.block y2 HP7.out.lt (fun e => by have := Option.some.inj e; omega)).trans HP7.out.2⟩
              have HPP := Lib.hid hPP
              clear hL7 hPP hb0 hm1 HL7 HP7
              go_upto_region 25 with (fail)
              go_loopg [17, 18] 16 (fun gg i v18 wr => ∃ c : Nat, c ≤ 16 ∧ I + c ≤ k ∧ gg = 16 - c ∧ i = .int .i64 c ∧ NxL bl wz v7 (42 + 64 * q1) (tx ++ (rs.take q1).flatten) (partR A V k (I + c) 0) wr ∧ w7.grownBy wr (some bl))
              case atStart => exact ⟨0, by omega, by omega, rfl, rfl, HL7b.out, grownBy_refl _ _⟩
              case round =>
                clear HL7b
                obtain ⟨c, hc, hck, rfl, rfl, hL, hg7⟩ := hrel
                have hPy := HPP.out wr hg7
                by_cases hin : c < 16 ∧ I + c < k
                case pos =>
                  obtain ⟨h16, hIK⟩ := hin
                  have h16' : (c : Int) < 16 := by omega
                  obtain ⟨s, hs⟩ : ∃ s, I + c = s := ⟨_, rfl⟩
                  have w1 : IntKind.i64.wrap ((q1 : Int) - 1) = (q : Int) := by rw [IntWalk.i64_in _ (by omega)]; omega
                  have w1b : IntKind.i64.wrap (q : Int) = (q : Int) := IntWalk.i64_in _ (by omega)
                  have w2 : IntKind.i64.wrap (16 * (q : Int)) = (I : Int) := by rw [IntWalk.i64_in _ (by omega)]; omega
                  have w2b : IntKind.i64.wrap (I : Int) = (I : Int) := IntWalk.i64_in _ (by omega)
                  have w3 : IntKind.i64.wrap ((I : Int) + (c : Int)) = (s : Int) := by rw [IntWalk.i64_in _ (by omega)]; omega
                  have w3b : IntKind.i64.wrap (s : Int) = (s : Int) := IntWalk.i64_in _ (by omega)
                  have hsK : (s : Int) < (k : Int) := by omega
                  obtain ⟨o, ho⟩ : ∃ o, 4 * c = o := ⟨_, rfl⟩
                  have w4 : IntKind.i64.wrap (4 * (c : Int)) = (o : Int) := by rw [IntWalk.i64_in _ (by omega)]; omega
                  have w4b : IntKind.i64.wrap (o : Int) = (o : Int) := IntWalk.i64_in _ (by omega)
                  obtain ⟨o1, ho1⟩ : ∃ o1, o + 1 = o1 := ⟨_, rfl⟩
                  obtain ⟨o2, ho2⟩ : ∃ o2, o + 2 = o2 := ⟨_, rfl⟩
                  obtain ⟨o3, ho3⟩ : ∃ o3, o + 3 = o3 := ⟨_, rfl⟩
                  have w5 : IntKind.i64.wrap ((o : Int) + 1) = (o1 : Int) := by rw [IntWalk.i64_in _ (by omega)]; omega
                  have w6 : IntKind.i64.wrap ((o : Int) + 2) = (o2 : Int) := by rw [IntWalk.i64_in _ (by omega)]; omega
                  have w7' : IntKind.i64.wrap ((o : Int) + 3) = (o3 : Int) := by rw [IntWalk.i64_in _ (by omega)]; omega
                  have hoo : o < 64 ∧ o1 < 64 ∧ o2 < 64 ∧ o3 < 64 := by omega
                  obtain ⟨ho64, ho164, ho264, ho364⟩ := hoo
                  obtain ⟨n0, hn0'⟩ : ∃ n0, (at8 pq o).toNat = n0 := ⟨_, rfl⟩
                  obtain ⟨n1, hn1'⟩ : ∃ n1, (at8 pq o1).toNat = n1 := ⟨_, rfl⟩
                  obtain ⟨n2, hn2'⟩ : ∃ n2, (at8 pq o2).toNat = n2 := ⟨_, rfl⟩
                  obtain ⟨n3, hn3'⟩ : ∃ n3, (at8 pq o3).toNat = n3 := ⟨_, rfl⟩
                  have l0 : n0 < 256 := by rw [← hn0']; exact (at8 pq o).toNat_lt
                  have l1 : n1 < 256 := by rw [← hn1']; exact (at8 pq o1).toNat_lt
                  have l2 : n2 < 256 := by rw [← hn2']; exact (at8 pq o2).toNat_lt
                  have l3 : n3 < 256 := by rw [← hn3']; exact (at8 pq o3).toNat_lt
                  obtain ⟨b1, hb1'⟩ : ∃ b1, n1 * 256 = b1 := ⟨_, rfl⟩
                  obtain ⟨b2, hb2'⟩ : ∃ b2, n2 * 65536 = b2 := ⟨_, rfl⟩
                  obtain ⟨b3, hb3'⟩ : ∃ b3, n3 * 16777216 = b3 := ⟨_, rfl⟩
                  obtain ⟨s1, hs1'⟩ : ∃ s1, n0 + b1 = s1 := ⟨_, rfl⟩
                  obtain ⟨s2, hs2'⟩ : ∃ s2, s1 + b2 = s2 := ⟨_, rfl⟩
                  obtain ⟨s3, hs3'⟩ : ∃ s3, s2 + b3 = s3 := ⟨_, rfl⟩
                  have v0 : IntKind.i64.wrap (n0 : Int) = (n0 : Int) := IntWalk.i64_in _ (by omega)
                  have v1 : IntKind.i64.wrap (n1 : Int) = (n1 : Int) := IntWalk.i64_in _ (by omega)
                  have v2 : IntKind.i64.wrap (n2 : Int) = (n2 : Int) := IntWalk.i64_in _ (by omega)
                  have v3 : IntKind.i64.wrap (n3 : Int) = (n3 : Int) := IntWalk.i64_in _ (by omega)
                  have m1 : IntKind.i64.wrap ((n1 : Int) * 256) = (b1 : Int) := by rw [IntWalk.i64_in _ (by omega)]; omega
                  have m2 : IntKind.i64.wrap ((n2 : Int) * 65536) = (b2 : Int) := by rw [IntWalk.i64_in _ (by omega)]; omega
                  have m3 : IntKind.i64.wrap ((n3 : Int) * 16777216) = (b3 : Int) := by rw [IntWalk.i64_in _ (by omega)]; omega
                  have a1 : IntKind.i64.wrap ((n0 : Int) + (b1 : Int)) = (s1 : Int) := by rw [IntWalk.i64_in _ (by omega)]; omega
                  have a2 : IntKind.i64.wrap ((s1 : Int) + (b2 : Int)) = (s2 : Int) := by rw [IntWalk.i64_in _ (by omega)]; omega
                  have a3 : IntKind.i64.wrap ((s2 : Int) + (b3 : Int)) = (s3 : Int) := by rw [IntWalk.i64_in _ (by omega)]; omega
                  have hAs : A s = s3 := by
                    rw [HA.out]
                    show num4 (rs.getD (s / 16) []) (4 * (s % 16)) = s3
                    rw [show s / 16 = q from by omega, show 4 * (s % 16) = o from by omega, ← Hpq.out]
                    unfold num4
                    rw [show o + 1 = o1 from ho1, show o + 2 = o2 from ho2, show o + 3 = o3 from ho3, hn0', hn1', hn2', hn3']
                    omega
                  have hLr := hL.row
                  have hst : ∀ W : World, W.heap[bl]? = some (.cells (partR A V k s 0).flatten.toArray 106 (0, 0)) → (W.setCell ⟨bl, s * 65, none⟩ (.int .i64 (s3 : Int))).heap[bl]? = some (.cells (partR A V k (s + 1) 0).flatten.toArray 106 (0, 0)) := fun W hW => by
                    rw [setCell_row hW (s * 65) _, ← partR_num HV64.out (by omega), hAs]
                  have hHst := Lib.hid hst
                  have hh0 := Lib.hid hn0'; have hh1 := Lib.hid hn1'; have hh2 := Lib.hid hn2'; have hh3 := Lib.hid hn3'
                  have hLd := hL.keep (w' := { wr with drawn := wr.drawn + 1 }) ⟨rfl, rfl, rfl, Nat.le_refl _, fun _ _ => rfl⟩
                  rw [hs] at hLd
                  have hfl : (partR A V k s 0).flatten.length = k * 65 := by rw [flat_lenS 65 _ (partR_rows HV64.out s 0), partR_length]
                  have hLd' := Lib.hid hLd
                  have hg8 : w7.grownBy ({ wr with drawn := wr.drawn + 1 } : World) (some bl) := grownBy_trans hg7 ⟨rfl, rfl, rfl, Nat.le_refl _, fun _ _ _ => rfl⟩
                  have hPd : PgAt y2 pq ({ wr with drawn := wr.drawn + 1 } : World) := ⟨hPy.1, hPy.2⟩
                  clear hst hn0' hn1' hn2' hn3' ho ho1 ho2 ho3 l0 l1 l2 l3 hAs hs1' hs2' hs3' hb1' hb2' hb3' hLr hL hPy hLd
                  go_upto_region 28 with (fail)
                  clear hqJ' h16'
                  refine wp_region_still_tail 33 (by kernel_rfl) (by kernel_rfl) ?_
                  obtain ⟨wd, hdr⟩ : ∃ wd : World, ({ wr with drawn := wr.drawn + 1 } : World) = wd := ⟨_, rfl⟩
                  rw [hdr] at hLd' hg8 hPd ⊢
                  have c0 : wd.cell? ⟨y2, o, none⟩ = some (.int .u8 n0) := by rw [hPd.cell ho64, ← hh0.out]; rfl
                  have c1 : wd.cell? ⟨y2, o1, none⟩ = some (.int .u8 n1) := by rw [hPd.cell ho164, ← hh1.out]; rfl
                  have c2 : wd.cell? ⟨y2, o2, none⟩ = some (.int .u8 n2) := by rw [hPd.cell ho264, ← hh2.out]; rfl
                  have c3 : wd.cell? ⟨y2, o3, none⟩ = some (.int .u8 n3) := by rw [hPd.cell ho364, ← hh3.out]; rfl
                  obtain ⟨old, cold⟩ : ∃ old, wd.cell? ⟨bl, s * 65, none⟩ = some old := by
                    rw [cell_of_row wd bl _ _ _ _ hLd'.out.row]
                    exact ⟨_, Array.getElem?_eq_getElem (by rw [List.size_toArray, hfl]; omega)⟩
                  have fold_ : wd.frozen? ⟨bl, s * 65, none⟩ = false := thawed_row hLd'.out.row _
                  clear hdr hPd hfl
                  have q0 : (o : Int) < 64 := by omega
                  have q1' : (o1 : Int) < 64 := by omega
                  have q2 : (o2 : Int) < 64 := by omega
                  have q3 : (o3 : Int) < 64 := by omega
                  have w5b : IntKind.i64.wrap (o1 : Int) = (o1 : Int) := IntWalk.i64_in _ (by omega)
                  have w6b : IntKind.i64.wrap (o2 : Int) = (o2 : Int) := IntWalk.i64_in _ (by omega)
                  have w7b : IntKind.i64.wrap (o3 : Int) = (o3 : Int) := IntWalk.i64_in _ (by omega)
                  simp only [List.take_succ_cons, List.take_zero, List.drop_succ_cons, List.drop_zero]
                  iterate 33 still_step
                  refine wpStill_nil ?_
                  clear w1 w1b hsK w4 w5b w6b w7b q0 q1' q2 q3 w2 w2b w3 w3b w4b w5 w6 w7' v0 v1 v2 v3 m1 m2 m3 a1 a2 a3 c0 c1 c2 c3
                  go_wp2
                  have hg9 := grownBy_trans hg8 (grown_setCell wd ⟨bl, s * 65, none⟩ (.int .i64 (s3 : Int)))
                  have hL9 := hLd'.out.turn (hHst.out wd hLd'.out.row) (grown_setCell wd ⟨bl, s * 65, none⟩ (.int .i64 (s3 : Int)))
                  generalize wd.setCell ⟨bl, s * 65, none⟩ (.int .i64 (s3 : Int)) = we at hg9 hL9 ⊢
                  go_roundg (16 - (c + 1))
                  case measure => omega
                  case rel => exact ⟨c + 1, by omega, by omega, rfl, by go_num, by rw [show I + (c + 1) = s + 1 from by omega]; exact hL9, hg9⟩
                case' neg =>
                  have hIc : I + c = min k (16 * q1) := by omega
                  have hLe := hL
                  rw [hIc, ← hb1] at hLe
                  have HLe := Lib.hid hLe
                  clear hL hLe hPy
                  by_cases h16 : c < 16
                  case' pos =>
                    have h16' : (c : Int) < 16 := by omega
                    obtain ⟨s, hs⟩ : ∃ s, I + c = s := ⟨_, rfl⟩
                    have w1 : IntKind.i64.wrap ((q1 : Int) - 1) = (q : Int) := by rw [IntWalk.i64_in _ (by omega)]; omega
                    have w1b : IntKind.i64.wrap (q : Int) = (q : Int) := IntWalk.i64_in _ (by omega)
                    have w2 : IntKind.i64.wrap (16 * (q : Int)) = (I : Int) := by rw [IntWalk.i64_in _ (by omega)]; omega
                    have w2b : IntKind.i64.wrap (I : Int) = (I : Int) := IntWalk.i64_in _ (by omega)
                    have w3 : IntKind.i64.wrap ((I : Int) + (c : Int)) = (s : Int) := by rw [IntWalk.i64_in _ (by omega)]; omega
                    have hsK : ¬ (s : Int) < (k : Int) := by omega
                    go_upto_region 19 with (fail)
                    clear w1 w1b w2 w2b w3 hsK hs h16'
                  case' neg =>
                    have h16' : ¬ (c : Int) < 16 := by omega
                    go_upto_region 19 with (fail)
                    clear h16'
                  all_goals
                    clear hIc hqJ'
                    go_wp2
                    go_roundg (T - (q1 + 1))
                    case measure => omega
                    case rel => exact ⟨q1, by omega, rfl, by go_num, HLe.out⟩
          · obtain rfl : T = q1 := by omega
            have hlt' : ¬ (T : Int) < (T : Int) := by omega
            have hTJ := HTJ.out
            have htk2 : rs.take q = rs := List.take_of_length_le (by have := Hrl.out; omega)
            have hraw : tx ++ (rs.take q).flatten = rawText pg m := by
              unfold rawText
              rw [HkO.out, htk2, Htx.out, Hhd.out, Hp.out, ← Hrs.out, List.append_assoc]
            have hmk1 : min k (16 * q) = k := by omega
            have hmk2 : q - J = k := by omega
            rw [hraw, hmk1, hmk2] at hL
            have hfoundE : (partR A V k k k) = (found pg m).map chgC := by
              unfold found
              rw [HkO.out, ← Hrs.out, ← partR_all, HA.out, HV.out, hJ]
            obtain ⟨txt, Htxt⟩ : ∃ txt, Hid (txt = rawText pg m) := ⟨_, rfl⟩
            rw [← Htxt.out] at hL
            obtain ⟨abp, acp, hav, hBa⟩ := hL.own.bytes
            obtain ⟨LT, hLT⟩ : ∃ LT, 42 + 64 * q = LT := ⟨_, rfl⟩
            have hLTb : LT ≤ 5000 := by omega
            rw [hLT] at hBa hav
            have hsum := rsum_any abp LT acp txt wr hBa (by omega)
            obtain ⟨rvl, Hrvl⟩ : ∃ rvl : List Value, Hid (rvl = (dig txt).map cu8) := ⟨_, rfl⟩
            rw [← Hrvl.out] at hsum
            have hrvll : rvl.length = 32 := by rw [Hrvl.out, List.length_map, dig_len]
            have hri : Hid ((Tryd.prog.info? 23).map (·.size) = some rvl.length) := by rw [hrvll]; exact (by kernel_rfl : (Tryd.prog.info? 23).map (·.size) = some 32)
            have hri2 : Hid ((Tryd.prog.info? 23).map (·.size) = some rvl.toArray.size) := by rw [List.size_toArray, hrvll]; exact (by kernel_rfl : (Tryd.prog.info? 23).map (·.size) = some 32)
            have hrz : Hid (z32.toArray.size = rvl.toArray.size) := by rw [show rvl.toArray.size = 32 from by rw [List.size_toArray, hrvll]]; exact (rfl : z32.toArray.size = 32)
            have hrzv : Hid (zv.toArray.size = rvl.toArray.size) := by rw [show rvl.toArray.size = 32 from by rw [List.size_toArray, hrvll], List.size_toArray, Hzv.out]; rfl
            have hr1 : Hid (rvl.toArray.all (·.oneCell') = true) := by rw [Hrvl.out]; exact bytes_one _
            clear hrvll
            have hNr := HNz.out.below hbw
            have hyr := Hyz.out.below hbw
            have hxz : x < wz.heap.size := by have := (Array.getElem?_eq_some_iff.1 HNz.out.res).1; exact this
            have hlo := hL.lo
            have hLrow := hL.row
            have Hsum := Lib.hid hsum; have Hfound := Lib.hid hfoundE; have HNzx := Lib.hid hlo; have HTJ2 := Lib.hid hTJ
            clear hsum htk2 hraw hmk1 hmk2 hfoundE hTJ hBa hLT hlo hlt
            subst hav
            have hone := fun W => Htk.out W
            go_wp2_with (first
              | (go_at_call 21; refine (hone _).mono ?_; rintro e w' ⟨rfl, rfl⟩)
              | (go_at_call 54; refine Hsum.out.mono ?_))
            rintro e wS ⟨rv, hrv, rfl, hbS⟩
            obtain rfl := hrv.out
            have hNS := hNr.below hbS
            have hyS := hyr.below hbS
            have hLS := hL.keep hbS
            clear hrv hbS hNr hyr hL Hsum hLrow
            go_upto_region 30 with (first
              | (refine wpList_store_row rfl 23 _ _ rfl (x + 1) rvl.toArray rfl rfl 23 zv.toArray hNS.sum hri2.out hrzv.out hr1.out ?_))
            have hyl2 := hyS.lt
            have hbl2 : x + 1 < bl := by have := HNzx.out; omega
            have hNT : NxW x rvl w (wS.setRow (x + 1) rvl.toArray) := ⟨(setRow_other wS (x + 1) x _ (by omega)).trans hNS.res, setRow_heap _ _ _ _ _ _ hNS.sum, below_setRow hNS.bel (by omega) _⟩
            have hyT : PgAt y p (wS.setRow (x + 1) rvl.toArray) := ⟨hyS.1, (setRow_other wS (x + 1) y _ (by omega)).trans hyS.2⟩
            have hlT : (wS.setRow (x + 1) rvl.toArray).heap[bl]? = some (.cells (partR A V k k k).flatten.toArray 106 (0, 0)) := (setRow_other wS (x + 1) bl _ (by omega)).trans hLS.row
            generalize wS.setRow (x + 1) rvl.toArray = wT at hNT hyT hlT ⊢
            clear hNS hyS hLS
            refine wp_region_still_lit (by kernel_rfl) (by kernel_rfl) ?_
            have hb9 : Below wT.heap.size wT { wT with drawn := wT.drawn + 1 } := ⟨rfl, rfl, rfl, Nat.le_refl _, fun _ _ => rfl⟩
            have hN9 := hNT.below hb9
            have hy9 := hyT.below hb9
            have hl9 : ({ wT with drawn := wT.drawn + 1 } : World).heap[bl]? = some (.cells (partR A V k k k).flatten.toArray 106 (0, 0)) := hlT
            obtain ⟨w9, hdr⟩ : ∃ w9 : World, ({ wT with drawn := wT.drawn + 1 } : World) = w9 := ⟨_, rfl⟩
            rw [hdr] at hN9 hy9 hl9 ⊢
            clear hdr hb9 hNT hyT hlT
            have hBs : Bytes w9.heap.size w9 (some ⟨x + 1, 0, none⟩) 32 32 (dig txt) := ⟨rfl, Nat.le_refl _, by unfold maxLen; omega, .inr ⟨x + 1, 0, rfl, (Array.getElem?_eq_some_iff.1 hN9.sum).1, fun j hj => by
              rw [Nat.zero_add, cell_of_row w9 (x + 1) j _ _ _ hN9.sum, Hrvl.out, List.getElem?_toArray, List.getElem?_map, List.getElem?_eq_getElem (show j < (dig txt).length from hj)]
              simp [at8, List.getD_eq_getElem?_getD, List.getElem?_eq_getElem (show j < (dig txt).length from hj)]⟩⟩
            have hBp : Bytes w9.heap.size w9 (some ⟨y, 10, none⟩) 32 54 ((p.drop 10).take 32) := hy9.bytes 10 32 (by omega)
            obtain ⟨s1, Hs1⟩ : ∃ s1, Hid (s1 = strV (dig txt)) := ⟨_, rfl⟩
            obtain ⟨s2, Hs2⟩ : ∃ s2, Hid (s2 = strV ((p.drop 10).take 32)) := ⟨_, rfl⟩
            have HC1 := Lib.hid (str_of_bytes w9 hBs (by omega))
            have HC2 := Lib.hid (str_of_bytes w9 hBp (by omega))
            rw [← Hs1.out] at HC1
            rw [← Hs2.out] at HC2
            obtain ⟨eb, heb⟩ : ∃ eb : Bool, (s1.toList == s2.toList) = eb := ⟨_, rfl⟩
            have Heb : Hid (eb = true ↔ dig txt = (p.drop 10).take 32) := by
              show eb = true ↔ _
              rw [← heb, beq_iff_eq, ByteArray.toList_eq, ByteArray.toList_eq, Hs1.out, Hs2.out]
              simp [strV]
            clear hBs hBp Hs1 Hs2
            still_step
            refine wpStill_val rfl (v := .string s1) ?_ ?_
            · unfold execOp
              rw [Sem.run_bind]
              exact (congrArg (fun r : Result Value => r.andThen fun v w' => (pure (Next.value v) : Sem Next).run Tryd.prog w') HC1.out).trans rfl
            still_step
            refine wpStill_val rfl (v := .string s2) ?_ ?_
            · unfold execOp
              rw [Sem.run_bind]
              exact (congrArg (fun r : Result Value => r.andThen fun v w' => (pure (Next.value v) : Sem Next).run Tryd.prog w') HC2.out).trans rfl
            still_step
            refine wpStill_nil ?_
            clear HC1 HC2 heb
            have hhold : holds pg free m ↔ eb = true := by
              rw [Heb.out]
              unfold holds
              rw [← Htxt.out, ← Hp.out]
              exact ⟨fun h => h.2, fun h => ⟨hyb, h⟩⟩
            have Hl9 := Lib.hid hl9; have Hhold := Lib.hid hhold
            clear hl9 hy9 hhold
            cases eb with
            | false =>
              have hno : ¬ holds pg free m := fun hh => by have := Hhold.out.1 hh; cases this
              clear Hhold Heb
              have Hno := Lib.hid hno
              clear hno
              go_upto_region 31 with (fail)
              have hWd : NxW x rvl w ({ w9 with drawn := w9.drawn + 1 } : World) := hN9.below ⟨rfl, rfl, rfl, Nat.le_refl _, fun _ _ => rfl⟩
              refine wp_region_still_tail 2 (by kernel_rfl) (by kernel_rfl) ?_
              obtain ⟨we, hde⟩ : ∃ we : World, ({ w9 with drawn := w9.drawn + 1 } : World) = we := ⟨_, rfl⟩
              rw [hde] at hWd ⊢
              have HL := Lib.hid (run_loadAt_mid (P := Tryd.prog) we (x + 1) 0 23 rvl _ (fun j v hj => by rw [Nat.zero_add, cell_of_row we (x + 1) j _ _ _ hWd.sum]; simpa using hj) Tryd.underlying23 rfl hri.out)
              clear hde
              simp only [List.take_succ_cons, List.take_zero, List.drop_succ_cons, List.drop_zero]
              refine wpStill_val rfl (v := .agg rvl.toArray) ?_ ?_
              · unfold execOp
                rw [Sem.run_bind]
                exact (congrArg (fun r : Result Value => r.andThen fun v w' => (pure (Next.value v) : Sem Next).run Tryd.prog w') HL.out).trans rfl
              still_step
              refine wpStill_nil ?_
              go_wp2_with (first
                | (refine wpList_store_row rfl 23 _ _ rfl x rvl.toArray rfl rfl 23 z32.toArray hWd.res hri2.out hrz.out hr1.out ?_))
              have hres3 : (we.setRow x rvl.toArray).heap[x]? = some (.cells rvl.toArray 23 (0, 0)) := setRow_heap _ _ _ _ _ _ hWd.res
              have hbel7 : Below w.heap.size w (we.setRow x rvl.toArray) := below_setRow (by rw [Hx.out]; exact hWd.bel) (by have := Hx.out; omega) _
              refine bodyPost_ret (v := .tuple #[.slice none 0 0, .agg rvl.toArray, .int .i64 0]) ?_ rfl ⟨hbel7, .inl ⟨Hno.out, dig txt, dig_len _, by rw [← Hrvl.out]⟩⟩
              exact results_tmp_cell_tmp (ty := 23) rfl _ _ x 23 _ (0, 0) _ rfl hres3 Tryd.underlying23 rfl hri2.out _ _ rfl rfl
            | true =>
              have hyes : holds pg free m := Hhold.out.2 rfl
              clear Hhold Heb
              have Hyes := Lib.hid hyes
              clear hyes
              go_upto_region 32 with (fail)
              have hl10 : ({ w9 with drawn := w9.drawn + 1 } : World).heap[bl]? = some (.cells (partR A V k k k).flatten.toArray 106 (0, 0)) := Hl9.out
              have hWd : NxW x rvl w ({ w9 with drawn := w9.drawn + 1 } : World) := hN9.below ⟨rfl, rfl, rfl, Nat.le_refl _, fun _ _ => rfl⟩
              refine wp_region_still_tail 3 (by kernel_rfl) (by kernel_rfl) ?_
              obtain ⟨we, hde⟩ : ∃ we : World, ({ w9 with drawn := w9.drawn + 1 } : World) = we := ⟨_, rfl⟩
              rw [hde] at hWd hl10 ⊢
              have HL := Lib.hid (run_loadAt_mid (P := Tryd.prog) we (x + 1) 0 23 rvl _ (fun j v hj => by rw [Nat.zero_add, cell_of_row we (x + 1) j _ _ _ hWd.sum]; simpa using hj) Tryd.underlying23 rfl hri.out)
              clear hde
              have Hl10 := Lib.hid hl10
              clear hl10
              simp only [List.take_succ_cons, List.take_zero, List.drop_succ_cons, List.drop_zero]
              still_step
              refine wpStill_val rfl (v := .agg rvl.toArray) ?_ ?_
              · unfold execOp
                rw [Sem.run_bind]
                exact (congrArg (fun r : Result Value => r.andThen fun v w' => (pure (Next.value v) : Sem Next).run Tryd.prog w') HL.out).trans rfl
              still_step
              refine wpStill_nil ?_
              go_wp2_with (first
                | (refine wpList_store_row rfl 23 _ _ rfl x rvl.toArray rfl rfl 23 z32.toArray hWd.res hri2.out hrz.out hr1.out ?_))
              have hres3 : (we.setRow x rvl.toArray).heap[x]? = some (.cells rvl.toArray 23 (0, 0)) := setRow_heap _ _ _ _ _ _ hWd.res
              have hbel7 : Below w.heap.size w (we.setRow x rvl.toArray) := below_setRow (by rw [Hx.out]; exact hWd.bel) (by have := Hx.out; omega) _
              refine bodyPost_ret (v := .tuple #[.slice (some ⟨bl, 0, none⟩) k k, .agg rvl.toArray, .int .i64 0]) ?_ rfl ⟨hbel7, .inr ⟨Hyes.out, bl, by rw [HkO.out, ← Htxt.out, ← Hrvl.out], by have := Hx.out; omega, ?_⟩⟩
              · exact results_tmp_cell_tmp (ty := 23) rfl _ _ x 23 _ (0, 0) _ rfl hres3 Tryd.underlying23 rfl hri2.out _ _ rfl rfl
              · rw [setRow_other we x bl _ (by omega), Hl10.out, Hfound.out]
      all_goals
        have hNz := HNW.out.below (below_drewN wr nq _)
        generalize wr.drewN nq = wz at hNz ⊢
        clear cN cP c37 wS wSb
        go_upto_region 12 with (fail)
        have hWd : NxW x zv w ({ wz with drawn := wz.drawn + 1 } : World) := hNz.below ⟨rfl, rfl, rfl, Nat.le_refl _, fun _ _ => rfl⟩
        refine wp_region_still_tail 2 (by kernel_rfl) (by kernel_rfl) ?_
        obtain ⟨we, hde⟩ : ∃ we : World, ({ wz with drawn := wz.drawn + 1 } : World) = we := ⟨_, rfl⟩
        rw [hde] at hWd ⊢
        have HL := Lib.hid (run_loadAt_mid (P := Tryd.prog) we (x + 1) 0 23 zv _ (fun j v hj => by rw [Nat.zero_add, cell_of_row we (x + 1) j _ _ _ hWd.sum]; simpa using hj) Tryd.underlying23 rfl hsi.out)
        clear hde
        simp only [List.take_succ_cons, List.take_zero, List.drop_succ_cons, List.drop_zero]
        refine wpStill_val rfl (v := .agg zv.toArray) ?_ ?_
        · unfold execOp
          rw [Sem.run_bind]
          exact (congrArg (fun r : Result Value => r.andThen fun v w' => (pure (Next.value v) : Sem Next).run Tryd.prog w') HL.out).trans rfl
        still_step
        refine wpStill_nil ?_
        go_wp2_with (first
          | (refine wpList_store_row rfl 23 _ _ rfl x zv.toArray rfl rfl 23 z32.toArray hWd.res hsi2.out hsz.out hs1.out ?_))
        have hres3 : (we.setRow x zv.toArray).heap[x]? = some (.cells zv.toArray 23 (0, 0)) := setRow_heap _ _ _ _ _ _ hWd.res
        have hbel7 : Below w.heap.size w (we.setRow x zv.toArray) := below_setRow (by rw [Hx.out]; exact hWd.bel) (by have := Hx.out; omega) _
        obtain ⟨bs, hbl, hbs⟩ := Hzb.out
        refine bodyPost_ret (v := .tuple #[.slice none 0 0, .agg zv.toArray, .int .i64 0]) ?_ rfl ⟨hbel7, .inl ⟨fun hh => hnb hh.1, bs, hbl, by rw [← hbs]⟩⟩
        exact results_tmp_cell_tmp (ty := 23) rfl _ _ x 23 _ (0, 0) _ rfl hres3 Tryd.underlying23 rfl hsi2.out _ _ rfl rfl
end
end Go.Proofs.YtegdlpllljccgaaDoor
