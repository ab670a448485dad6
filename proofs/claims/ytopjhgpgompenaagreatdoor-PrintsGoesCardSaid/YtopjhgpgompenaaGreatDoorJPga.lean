import Derived.Test.YtopjhgpgompenaaGreatDoorPnLaw
import Derived.Deep.AppendLies
import Derived.Test.YtopjhgpgompenaaGreatDoorPnFillM
import Derived.Maps.OwnSet
set_option linter.unusedSimpArgs false
set_option linter.unusedVariables false
/-
  Package prints: All of a table that is one.
-/
set_option linter.unusedSimpArgs false
set_option linter.unusedVariables false
namespace Go.Proofs.YtopjhgpgompenaaGreatDoor
open Go.RowKit Sh Go.Maps Go.Extern.Stop Go.Stop Go.Extern

theorem infoIntP : (Tryz.prog.info? 3).map (fun i => (i.zero, i.size, i.bytes)) = some (some (.int .i64 0), 1, 8) := by kernel_rfl
def slN (L : List Nat) : List Value := L.map fun s => Value.int .i64 (s : Nat)
theorem slN_len (L : List Nat) : (slN L).length = L.length := List.length_map ..
theorem owns_below {w w' : World} {B : Nat} {e : TypeId} {s n : Nat} {v : Value} {xs : List Value} (h : w.ownsRow B e s v n xs) (hb : Below w.heap.size w w') : w'.ownsRow B e s v n xs := by
  obtain ⟨h1, h2⟩ := h
  refine ⟨h1, ?_⟩
  rcases h2 with ⟨rfl, h0⟩ | ⟨g, cap, cur, rfl, hB, hg, h3⟩
  · exact .inl ⟨rfl, h0⟩
  · exact .inr ⟨g, cap, cur, rfl, hB, (hb.block g (Array.getElem?_eq_some_iff.1 hg).1).trans hg, h3⟩
/-- The places that have an entry. -/
def allL (es : List Ent) (n : Nat) : List Nat := (List.range n).filter (fun i => decide (0 < (es.getD i noE).refs))
theorem allL_succ (es : List Ent) (n : Nat) : allL es (n + 1) = if 0 < (es.getD n noE).refs then allL es n ++ [n] else allL es n := by
  unfold allL
  rw [List.range_succ, List.filter_append, List.filter_cons, List.filter_nil]
  by_cases h : 0 < (es.getD n noE).refs
  · rw [if_pos h, if_pos (by simpa using h)]
  · rw [if_neg h, if_neg (by simpa using h), List.append_nil]
theorem allL_le (es : List Ent) (n : Nat) : (allL es n).length ≤ n := by
  unfold allL
  have := List.length_filter_le (fun i => decide (0 < (es.getD i noE).refs)) (List.range n)
  rwa [List.length_range] at this
def AllQ (L : List Nat) (B : Nat) (w : World) (e : Ending) (w' : World) : Prop := ∃ v, e = .returned (.tuple #[v, .nilIface]) ∧ w'.ownsRow B 3 1 v L.length (slN L) ∧ Below w.heap.size w w'
section
variable {b : Bk} {gd g first n x : Nat} {T : List (Nat × Obj)} {w0 w : World} {es : List Ent}
set_option maxRecDepth 100000 in
set_option maxHeartbeats 16000000 in
theorem OwnX.pall (h : OwnX b gd g T w0 w) (hT : (x, tabO g first n) ∈ T) (hTa : Ta b first n es) (hf : first ≤ 2000) (hn : n ≤ 2000) :
    Calls Tryz.prog 82 #[.pointer (some ⟨x, 0, none⟩)] w (AllQ (allL es n) w.heap.size w) := by
  obtain ⟨_, _, c2⟩ := (h.tab hT).cells
  have Hen := Lib.hid (fun (wr : World) (hb : Below w.heap.size w wr) (i : Nat) (hi : i < n) => (h.below hb).pentry hT hTa hf hn hi)
  have Htb := Lib.hid (fun (wr : World) (hb : Below w.heap.size w wr) => ((h.below hb).tab hT).cells)
  have Hok := Lib.hid (fun (i : Nat) (hi : i < n) => hTa.eok hi)
  have n0 : (0 : Int) ≤ (n : Int) := by omega
  obtain ⟨i0, hi0, hzz⟩ := Option.map_eq_some_iff.1 infoIntP
  simp only [Prod.mk.injEq] at hzz
  have Hi0 := Lib.hid hi0; have Hzz := Lib.hid hzz
  obtain ⟨zn, Hzn⟩ : ∃ zn : Array Value, Hid (zn = (entC noE).toArray) := ⟨_, rfl⟩
  have hal : ∀ w : World, (Instr.alloc 73 true (.tuple #[])).run Tryz.prog w = .ok (.pointer (some ⟨w.heap.size, 0, none⟩)) (w.alloc (.cells zn 73)) := by rw [Hzn.out]; exact allocEnt
  clear h hTa hi0 hzz
  go_enter Tryz.func82, Tryz.ntmps82
  go_wp2
  clear c2
  go_loopg [15, 4] n (fun m v sv wr => ∃ k : Nat, m = n - k ∧ k ≤ n ∧ v = .int .i64 k ∧ wr.ownsRow w.heap.size 3 1 sv (allL es k).length (slN (allL es k)) ∧ Below w.heap.size w wr)
  case atStart => exact ⟨0, rfl, by omega, rfl, World.ownsRow_nil _ _ _ _, Below.refl _ _⟩
  case round =>
    obtain ⟨k, rfl, hk, rfl, hown, hb⟩ := hrel
    by_cases hlt : k < n
    · have hlt' : (k : Int) < (n : Int) := by omega
      have hk16 : k ≤ 2000 := by omega
      have wi : IntKind.i64.wrap (k : Int) = (k : Int) := IntWalk.i64_in _ (by omega)
      have Hen2 := Lib.hid (Hen.out wr hb k hlt)
      have hok := Hok.out k hlt
      have hsu := allL_succ es k
      obtain ⟨J, hJ⟩ : ∃ J, (allL es k).length = J := ⟨_, rfl⟩
      have hJ16 : J ≤ 2000 := by have := allL_le es k; omega
      obtain ⟨e, he⟩ : ∃ e, es.getD k noE = e := ⟨_, rfl⟩
      rw [he] at Hen2 hok hsu
      rw [hJ] at hown
      obtain ⟨R, hR⟩ : ∃ R, e.refs = R := ⟨_, rfl⟩
      have hR15 : R ≤ 15 := by have := hok.refs; omega
      rw [hR] at hsu
      obtain ⟨ev, Hev⟩ : ∃ ev : List Value, Hid (ev = entC e) := ⟨_, rfl⟩
      have hV : entV e = .agg ev.toArray := by rw [Hev.out]; rfl
      rw [hV] at Hen2
      have hdl := hok.dg
      have hel : ev.length = 34 := by rw [Hev.out]; exact entC_len hok.dg
      have hei : Hid ((Tryz.prog.info? 73).map (·.size) = some ev.toArray.size) := by rw [List.size_toArray, hel]; exact infoEnt
      have hez : Hid (zn.size = ev.toArray.size) := by
        have e : ev.toArray.size = 34 := by rw [List.size_toArray, hel]
        rw [e, Hzn.out]; exact (rfl : (entC noE).toArray.size = 34)
      have he1 : Hid (ev.toArray.all (·.oneCell') = true) := by rw [Hev.out]; exact all_oneCell_toArray (entC_one e)
      have Hsu := Lib.hid hsu; have HJ := Lib.hid hJ; have Hown := Lib.hid hown; have Hb := Lib.hid hb
      clear hsu hJ hown hb he hV hel hok
      go_wp2_with (first
        | (go_at_call 104; refine Hen2.out.mono ?_))
      rintro e5 w5 ⟨rfl, hb5⟩
      go_upto_region 8 with (first
        | (refine wpList_alloc_arr rfl 73 rfl _ hal ?_)
        | (refine wpList_store_new rfl 73 _ _ rfl w5.heap.size rfl ev.toArray rfl rfl 73 _ hei.out hez.out he1.out ?_))
      have hb6 : Below w5.heap.size w5 (w5.alloc (.cells ev.toArray 73)) := (Below.refl _ _).alloc (Nat.le_refl _) _
      have hx6 : (w5.alloc (.cells ev.toArray 73)).heap[w5.heap.size]? = some (.cells ev.toArray 73 (0, 0)) := heap_alloc_new w5 _
      have hown6 := owns_below (owns_below Hown.out hb5) hb6
      have hbw6 := (Hb.out.trans (hb5.mono Hb.out.size)).trans (hb6.mono (by have := Hb.out.size; have := hb5.size; omega))
      generalize w5.alloc (.cells ev.toArray 73) = w6 at hb6 hx6 hown6 hbw6 ⊢
      generalize w5.heap.size = y at hb6 hx6 ⊢
      have c33 : w6.cell? ⟨y, 33, none⟩ = some (.int .i64 (R : Nat)) := by
        have := (ent_box (x := y) (e := e) (by rw [hx6, Hev.out]) hdl).2
        rwa [hR] at this
      have Hbw6 := Lib.hid hbw6; have Hown6 := Lib.hid hown6
      clear hb5 hb6 hx6 hown6 hbw6 Hen2 Hown hei hez he1
      by_cases hr0 : 0 < R
      · have hr0' : (0 : Int) < (R : Int) := by omega
        have hL : allL es (k + 1) = allL es k ++ [k] := by rw [Hsu.out, if_pos hr0]
        obtain ⟨B, hB⟩ : ∃ B, w.heap.size = B := ⟨_, rfl⟩
        have hBs : B ≤ w6.heap.size := by have := Hbw6.out.size; omega
        have hown := Hown6.out
        rw [hB] at hown
        obtain ⟨hq0, hq1, hq2⟩ := Hzz.out
        have hi0 := Hi0.out
        go_wp2_with (at_builtin; refine wpList_append_lies _ rfl _ _ _ rfl B 3 i0 _ 1 8 Tryz.underlying32 hi0 hq0 hq1 hq2 rfl (by omega) _ J _ rfl (hown.alloc _) ⟨w6.heap.size, 0, none⟩ 1 1 [.int .i64 (k : Nat)] rfl rfl (World.news_of_block (cs := #[.int .i64 (k : Nat)]) (t := 3) (fr := (0, 0)) (heap_alloc_new w6 _)) (by simp [Value.oneCell']) (by omega) (by unfold maxLen; omega) (by omega) (by simp; omega) (w6.heap.size + 1) (by simp) ?_)
        intro q cap2 w4 hown4 hgr4 hat4 hlt4
        subst hB
        have hba : Below w.heap.size w (w6.alloc (.cells #[.int .i64 (k : Nat)] 3)) := Hbw6.out.alloc hBs _
        have hbw4 : Below w.heap.size w w4 := hba.grown hgr4 (by have := hba.size; exact this) (fun j hj => by
          obtain ⟨_, h2⟩ := hown
          rcases h2 with ⟨rfl, _⟩ | ⟨g', _, _, rfl, hB', _⟩
          · cases hj
          · have e : g' = j := Option.some.inj hj
            rw [← e]; exact hB')
        have hlen : (allL es (k + 1)).length = J + 1 := by rw [hL, List.length_append, HJ.out]; rfl
        have hsl : slN (allL es (k + 1)) = slN (allL es k) ++ [.int .i64 (k : Nat)] := by rw [hL]; simp [slN]
        rw [← hsl, ← hlen] at hown4
        have Hown4 := Lib.hid hown4; have Hbw4 := Lib.hid hbw4; have Hlen := Lib.hid hlen
        clear hown hown4 hbw4 hba hgr4 hat4 hlt4 hsl hlen hL hBs hi0 hq0 hq1 hq2
        rw [Hlen.out] at Hown4
        go_wp2
        go_roundg (n - (k + 1))
        case measure => omega
        case rel => exact ⟨k + 1, rfl, by omega, by go_num, by rw [Hlen.out]; exact Hown4.out, Hbw4.out⟩
      · have hr0' : ¬ (0 : Int) < (R : Int) := by omega
        have hL : allL es (k + 1) = allL es k := by rw [Hsu.out, if_neg hr0]
        have HL := Lib.hid hL
        clear hL
        go_wp2
        go_roundg (n - (k + 1))
        case measure => omega
        case rel => exact ⟨k + 1, rfl, by omega, by go_num, by rw [HL.out, HJ.out]; exact Hown6.out, Hbw6.out⟩
    · obtain rfl : k = n := by omega
      have hlt' : ¬ ((k : Int) < (k : Int)) := by omega
      have Hfin := Lib.hid (show AllQ (allL es k) w.heap.size w (.returned (.tuple #[u4, .nilIface])) wr from ⟨_, rfl, hown, hb⟩)
      clear hb hown
      go_wp2
      first | exact Hfin.out | (go_ret; exact Hfin.out) | refine bodyPost_ret (v := .tuple #[u4, .nilIface]) (by simp [results, Tryz.results82, go_sem]) rfl Hfin.out
theorem OwnX.pAll (h : OwnX b gd g T w0 w) (hT : (x, tabO g first n) ∈ T) (hTa : Ta b first n es) (hf : first ≤ 2000) (hn : n ≤ 2000) :
    Calls Tryz.prog 39 #[.pointer (some ⟨x, 0, none⟩)] w (AllQ (allL es n) w.heap.size w) := by
  have Hc := Lib.hid (h.pall hT hTa hf hn)
  obtain ⟨L, hL⟩ : ∃ L, allL es n = L := ⟨_, rfl⟩
  rw [hL] at Hc ⊢
  go_enter Tryz.func39, Tryz.ntmps39
  go_wp2_with (first | (go_at_call 82; refine Hc.out.mono ?_))
  rintro e w1 ⟨v, rfl, ho, hb⟩
  have Hi := Lib.hid (in_err ⟨#[112, 114, 105, 110, 116, 115, 46, 65, 108, 108]⟩ 0 .nilIface w1 ErrV.nil)
  clear Hc
  go_wp2_with (first | (go_at_call 49; refine Hi.out.mono ?_))
  rintro e w2 ⟨v2, rfl, hE2, hb2⟩
  obtain rfl := ErrV.zero hE2
  have Hfin := Lib.hid (show AllQ L w.heap.size w (.returned (.tuple #[v, .nilIface])) w2 from ⟨v, rfl, owns_below ho hb2, hb.trans (hb2.mono hb.size)⟩)
  clear hE2 hb2 Hi ho
  go_wp2
  first | exact Hfin.out | (go_ret; exact Hfin.out) | refine bodyPost_ret (v := .tuple #[v, .nilIface]) (by simp [results, Tryz.results39, go_sem]) rfl Hfin.out
end
end Go.Proofs.YtopjhgpgompenaaGreatDoor

/-
  A table that is filled and emptied: plain.
-/
set_option linter.unusedSimpArgs false
set_option linter.unusedVariables false
namespace Go.Proofs.YtopjhgpgompenaaGreatDoor
open Go.RowKit Sh Go.Maps Go.Extern.Stop Go.Stop Go.Extern

def dgG (i : Nat) : List UInt8 := 9 :: 9 :: UInt8.ofNat i :: List.replicate 29 0
theorem dgG_len (i : Nat) : (dgG i).length = 32 := by unfold dgG; simp
theorem dgG_inj {i j : Nat} (hi : i < 256) (hj : j < 256) (h : dgG i = dgG j) : i = j := by
  have key : UInt8.ofNat i = UInt8.ofNat j := by
    unfold dgG at h
    simp only [List.cons.injEq, true_and, and_true] at h
    exact h
  have := congrArg UInt8.toNat key
  rw [UInt8.toNat_ofNat', UInt8.toNat_ofNat'] at this
  omega
def entG (i : Nat) : Ent := ⟨dgG i, i, 2⟩
theorem entG_len (i : Nat) : (entG i).dg.length = 32 := dgG_len i
theorem entG_ok (i : Nat) (h : i < 256) : EntOk (entG i) := ⟨entG_len i, h, by show 2 ≤ 15; omega⟩
theorem entG_no (i : Nat) : entG i ≠ noE := fun h => by
  have h2 : (2 : Nat) = 0 := congrArg Ent.refs h
  omega
/-- What is in the table: f says where. -/
structure GF (lv : Nat → Bool) (f : Nat → Nat) (es : List Ent) (n i : Nat) : Prop where
  len : es.length = n
  at_ : ∀ j, j < i → lv j = true → f j < n ∧ es.getD (f j) noE = entG j
  each : ∀ p, p < n → es.getD p noE = noE ∨ ∃ j, j < i ∧ lv j = true ∧ p = f j
theorem GF.zero (lv : Nat → Bool) (f : Nat → Nat) (n : Nat) : GF lv f (List.replicate n noE) n 0 :=
  ⟨List.length_replicate, fun j hj => by omega, fun p hp => .inl (by rw [List.getD_eq_getElem?_getD, List.getElem?_replicate, if_pos hp]; rfl)⟩
def updF (f : Nat → Nat) (i p : Nat) : Nat → Nat := fun j => if j = i then p else f j
theorem free_used {es : List Ent} {n a : Nat} (hl : es.length = n) (h0 : 0 < n) : lookL fitO es n a = none ↔ usedE es = n := by
  constructor
  · intro hn
    rw [← hl]
    exact usedE_all (es := es) (fun p hp => lookL_none h0 hn p (by omega))
  · intro hi
    cases hk : lookL fitO es n a with
    | none => rfl
    | some p =>
      obtain ⟨h1, h2⟩ := lookL_some h0 hk
      have := usedE_some (es := es) (p := p) (by omega) h2
      omega
theorem GF.put {f : Nat → Nat} {es : List Ent} {n i a p : Nat} (h : GF (fun _ => true) f es n i) (hu : usedE es = i) (h0 : 0 < n) (hl : lookL fitO es n a = some p) :
    p < n ∧ GF (fun _ => true) (updF f i p) (es.set p (normE (entG i))) n (i + 1) ∧ usedE (es.set p (normE (entG i))) = i + 1 := by
  obtain ⟨h1, h2⟩ := lookL_some h0 hl
  have hlen := h.len
  have hp : p < es.length := by omega
  have hno : ∀ j, j < i → f j ≠ p := fun j hj e => by
    have := (h.at_ j hj rfl).2
    rw [e] at this; rw [this] at h2; cases h2
  have hn : normE (entG i) = entG i := rfl
  rw [hn]
  have hg := fun q => getD_set_ent es p q (entG i) hp
  refine ⟨h1, ⟨by rw [List.length_set]; exact hlen, fun j hj _ => ?_, fun q hq => ?_⟩, by rw [usedE_set hp h2 rfl, hu]⟩
  · by_cases e : j = i
    · subst e; unfold updF; rw [if_pos rfl, hg, if_pos rfl]; exact ⟨h1, rfl⟩
    · obtain ⟨h3, h4⟩ := h.at_ j (by omega) rfl
      unfold updF; rw [if_neg e, hg, if_neg (hno j (by omega))]; exact ⟨h3, h4⟩
  · rw [hg]
    by_cases e : q = p
    · exact .inr ⟨i, by omega, rfl, by unfold updF; rw [if_pos rfl, e]⟩
    · rw [if_neg e]
      exact (h.each q hq).imp id (fun ⟨j, hj, _, h3⟩ => ⟨j, by omega, rfl, by unfold updF; rw [if_neg (by omega)]; exact h3⟩)
theorem usedE_drop {es : List Ent} {p : Nat} (hp : p < es.length) (h0 : fitO (es.getD p noE) = false) : usedE (es.set p noE) + 1 = usedE es := by
  unfold usedE
  induction es generalizing p with
  | nil => simp at hp
  | cons x es ih =>
    cases p with
    | zero =>
      have hx : fitO x = false := h0
      have hn : fitO noE = true := by decide
      simp only [List.set_cons_zero, List.countP_cons, hn, hx]
      simp
    | succ p =>
      have := ih (p := p) (by simpa using hp) h0
      simp only [List.set_cons_succ, List.countP_cons]
      omega
def lvU (gn : Nat → Bool) (i : Nat) : Nat → Bool := fun j => !(decide (j < i) && gn j)
theorem lvU_zero (gn : Nat → Bool) : lvU gn 0 = fun _ => true := by funext j; simp [lvU]
theorem lvU_at (gn : Nat → Bool) (i : Nat) : lvU gn i i = true := by simp [lvU]
theorem lvU_stay {gn : Nat → Bool} {i : Nat} (h : gn i = false) : lvU gn (i + 1) = lvU gn i := by
  funext j
  unfold lvU
  by_cases e : j = i
  · subst e; simp [h]
  · have : decide (j < i + 1) = decide (j < i) := by rw [decide_eq_decide]; omega
    rw [this]
theorem lvU_end {gn : Nat → Bool} {n i : Nat} (h : i < n) : lvU gn n i = !gn i := by unfold lvU; simp [h]
theorem GF.drop {gn : Nat → Bool} {f : Nat → Nat} {es : List Ent} {n i : Nat} (h : GF (lvU gn i) f es n n) (hi : i < n) (hn : n < 256) (hg : gn i = true) :
    f i < n ∧ GF (lvU gn (i + 1)) f (es.set (f i) (normE noE)) n n ∧ usedE (es.set (f i) (normE noE)) + 1 = usedE es := by
  obtain ⟨h1, h2⟩ := h.at_ i hi (lvU_at gn i)
  have hlen := h.len
  have hp : f i < es.length := by omega
  have hno : normE noE = noE := rfl
  rw [hno]
  have hs := fun q => getD_set_ent es (f i) q noE hp
  have hl : ∀ j, lvU gn (i + 1) j = true → lvU gn i j = true ∧ j ≠ i := fun j hj => by
    unfold lvU at hj ⊢
    have hne : j ≠ i := fun e => by subst e; simp [hg] at hj
    have : decide (j < i + 1) = decide (j < i) := by rw [decide_eq_decide]; omega
    rw [this] at hj
    exact ⟨hj, hne⟩
  have hl2 : ∀ j, lvU gn i j = true → j ≠ i → lvU gn (i + 1) j = true := fun j hj hne => by
    unfold lvU at hj ⊢
    have : decide (j < i + 1) = decide (j < i) := by rw [decide_eq_decide]; omega
    rw [this]; exact hj
  refine ⟨h1, ⟨by rw [List.length_set]; exact hlen, fun j hj hv => ?_, fun q hq => ?_⟩, usedE_drop hp (by rw [h2]; rfl)⟩
  · obtain ⟨hv1, hne⟩ := hl j hv
    obtain ⟨h3, h4⟩ := h.at_ j hj hv1
    refine ⟨h3, ?_⟩
    rw [hs, if_neg, h4]
    intro e
    rw [e, h2] at h4
    exact hne (dgG_inj (by omega) (by omega) (congrArg Ent.dg h4)).symm
  · rw [hs]
    by_cases e : q = f i
    · rw [if_pos e]; exact .inl rfl
    · rw [if_neg e]
      exact (h.each q hq).imp id (fun ⟨j, hj, hv, h3⟩ => ⟨j, hj, hl2 j hv (fun e2 => e (by rw [h3, e2])), h3⟩)
/-- What is found of it. -/
theorem GF.finds {gn : Nat → Bool} {f : Nat → Nat} {es : List Ent} {n j : Nat} (h : GF (lvU gn n) f es n n) (hn : n < 256) (hj : j < n) (a : Nat) :
    lookL (fitF (dgG j)) es n a = (if gn j then none else some (f j)) ∧ lookL (fitS (j : Int)) es n 0 = (if gn j then none else some (f j)) ∧ (gn j = false → f j < n) := by
  have hF : ∀ q, q < n → (fitF (dgG j) (es.getD q noE) = true ∨ fitS (j : Int) (es.getD q noE) = true) → gn j = false ∧ q = f j := fun q hq hf => by
    rcases h.each q hq with h3 | ⟨k, hk, hv, h3⟩
    · rw [h3] at hf
      rcases hf with hf | hf
      · exact absurd hf (by unfold fitF; simp [noE])
      · exact absurd hf (by unfold fitS; simp [noE])
    · rw [h3, (h.at_ k hk hv).2] at hf
      have : k = j := by
        rcases hf with hf | hf
        · have hd : dgG k = dgG j := by unfold fitF entG at hf; simpa using hf
          exact dgG_inj (by omega) (by omega) hd
        · unfold fitS entG at hf; simp at hf; omega
      subst this
      rw [lvU_end hk] at hv
      exact ⟨by simpa using hv, h3⟩
  cases hg : gn j with
  | true =>
    refine ⟨?_, ?_, fun e => by cases e⟩
    · cases hl : lookL (fitF (dgG j)) es n a with
      | none => rfl
      | some q => obtain ⟨h1, h2⟩ := lookL_some (by omega) hl; have := (hF q h1 (.inl h2)).1; rw [hg] at this; cases this
    · cases hl : lookL (fitS (j : Int)) es n 0 with
      | none => rfl
      | some q => obtain ⟨h1, h2⟩ := lookL_some (by omega) hl; have := (hF q h1 (.inr h2)).1; rw [hg] at this; cases this
  | false =>
    obtain ⟨h1, h2⟩ := h.at_ j hj (by rw [lvU_end hj, hg]; rfl)
    refine ⟨lookL_one (by omega) h1 ?_ (fun q hq hf => (hF q hq (.inl hf)).2), lookL_one (by omega) h1 ?_ (fun q hq hf => (hF q hq (.inr hf)).2), fun _ => h1⟩
    · rw [h2]; unfold fitF entG; simp
    · rw [h2]; unfold fitS entG; simp
theorem allL_used (es : List Ent) : (allL es es.length).length = usedE es := by
  unfold allL usedE
  rw [← List.countP_eq_length_filter]
  have : ∀ (l : List Ent), (List.range l.length).countP (fun i => decide (0 < (l.getD i noE).refs)) = l.countP (fun e => !fitO e) := by
    intro l
    induction l with
    | nil => rfl
    | cons x l ih =>
      rw [List.length_cons, List.range_succ_eq_map, List.countP_cons, List.countP_map, List.countP_cons, ← ih]
      have e1 : ((fun i => decide (0 < ((x :: l).getD i noE).refs)) ∘ Nat.succ) = fun i => decide (0 < (l.getD i noE).refs) := by funext i; rfl
      rw [e1]
      congr 1
      have : (decide (0 < ((x :: l).getD 0 noE).refs)) = !fitO x := by
        show decide (0 < x.refs) = !decide (x.refs = 0)
        by_cases h : x.refs = 0
        · simp [h]
        · simp [h]; omega
      rw [this]
  exact this es
end Go.Proofs.YtopjhgpgompenaaGreatDoor

/-
  A map from numbers to numbers beside a book.
-/
set_option linter.unusedSimpArgs false
set_option linter.unusedVariables false
namespace Go.Proofs.YtopjhgpgompenaaGreatDoor
open Go.RowKit Sh Go.Maps Go.Extern.Stop Go.Stop Go.Extern

def ikl (k : Nat) : Go.Lit := .int .i64 (k : Nat)
theorem wfN {k : Nat} (h : k < 9223372036854775807) : (Go.Lit.int .i64 (k : Nat)).wf = true := by
  simp [Go.Lit.wf, IntKind.min, IntKind.max, IntKind.bits, IntKind.signed]; omega
theorem key_n {k : Nat} (h : k < 9223372036854775807) : keyOf Tryz.prog 3 (.int .i64 (k : Nat)) = some (ikl k) := keyOf_int_mk Tryz.underlying3 (wfN h)
theorem ikl_inj {j k : Nat} (h : ikl j = ikl k) : j = k := by
  unfold ikl at h
  simp only [Go.Lit.int.injEq, true_and] at h
  omega
def MapN (w : World) (mb nn : Nat) (D : DataW Unit) : Prop := w.ownsMap Tryz.prog 3 (plainElem Tryz.prog 3) mb nn D
/-- The map D lies in the first block of T. -/
def MT (x : Nat × Obj) (mb : Nat) (T : List (Nat × Obj)) (nn : Nat) (D : DataW Unit) : Prop := ∃ o, T = [(mb, o), x] ∧ mb ≠ x.1 ∧ ∀ w : World, w.heap[mb]? = some o → MapN w mb nn D
def Holds (D : DataW Unit) (f : Nat → Nat) (i : Nat) : Prop := ∀ j, j < i → ∀ z, D.atKey (ikl j) z = .lit (.int .i64 (f j : Nat))
theorem zero_int (w : World) : (zeroValue 3).run Tryz.prog w = .ok (.int .i64 0) w := by kernel_rfl
theorem MapN.block {w w' : World} {mb nn : Nat} {D : DataW Unit} {o : Obj} (h : MapN w mb nn D) (h1 : w.heap[mb]? = some o) (h2 : w'.heap[mb]? = some o) : MapN w' mb nn D := by
  obtain ⟨es, clock, h3, h4⟩ := h
  exact ⟨es, clock, h2.trans (h1.symm.trans h3), h4⟩
section
variable {b : Bk} {gd g mb nn : Nat} {x : Nat × Obj} {T : List (Nat × Obj)} {D : DataW Unit} {w0 w : World}
theorem MT.mem (h : MT x mb T nn D) : x ∈ T := by obtain ⟨o, rfl, _⟩ := h; simp
theorem MT.map (h : MT x mb T nn D) (hX : OwnX b gd g T w0 w) : MapN w mb nn D := by
  obtain ⟨o, rfl, _, h⟩ := h
  exact h w (hX.at_ (x := (mb, o)) (by simp))
/-- What is looked up. -/
theorem MT.look (h : MT x mb T nn D) (hX : OwnX b gd g T w0 w) {f : Nat → Nat} {i j : Nat} (hH : Holds D f i) (hj : j < i) (hj2 : j < 9223372036854775807) :
    (Instr.lookup 88 (.map (some mb)) (.int .i64 (j : Nat)) false).run Tryz.prog w = .ok (.int .i64 (f j : Nat)) w := by
  obtain ⟨c, hrun, hat, _⟩ := World.ownsMap.lookup_int (h.map hX) keyedInt Tryz.underlying88 Tryz.underlying3 (zero_int w) (key_n hj2)
  rw [hH j hj] at hat
  simp only [DataW.lit.injEq, Go.Lit.int.injEq, true_and] at hat
  rw [hat]; exact hrun
/-- A map is made. -/
theorem MT.made (hX : OwnX b gd g [x] w0 w) : OwnX b gd g [(w.heap.size, .map #[] 0), x] w0 (w.alloc (.map #[] 0)) ∧ MT x w.heap.size [(w.heap.size, .map #[] 0), x] 0 (.map []) := by
  have hb : Below w.heap.size w (w.alloc (.map #[] 0)) := (Below.refl _ _).alloc (Nat.le_refl _) _
  have hn := heap_alloc_new w (.map #[] 0)
  have hlt := hX.arr.lt (x := x) (by simp)
  refine ⟨hX.holdsP hb (Nat.le_refl _) hn, _, rfl, by omega, fun w' hw' => ?_⟩
  exact MapN.block (World.ownsMap_made w _ _ _) hn hw'
/-- A number is put. -/
theorem MT.put (h : MT x mb T nn D) (hX : OwnX b gd g T w0 w) (hnn : nn < maxLen) {k v : Nat} (hk : k < 9223372036854775807) (hv : v < 9223372036854775807) :
    ∃ w' T', (Instr.mapUpdate 88 (.map (some mb)) (.int .i64 (k : Nat)) (.int .i64 (v : Nat))).run Tryz.prog w = .ok () w' ∧ OwnX b gd g T' w0 w' ∧ MT x mb T' (nn + 1) (D.put (ikl k) (.lit (.int .i64 (v : Nat)))) := by
  obtain ⟨w', hrun, hm, hgr⟩ := World.ownsMap.update (h.map hX) keyedInt Tryz.underlying88 hnn (key_n hk) (plainElem_int Tryz.underlying3 (wfN hv))
  obtain ⟨o, rfl, hne, _⟩ := h
  obtain ⟨o4, ho4⟩ : ∃ o4, w'.heap[mb]? = some o4 := by obtain ⟨es, clock, h1, _⟩ := hm; exact ⟨_, h1⟩
  obtain ⟨Fd, gr, bn, bt, hi, hF⟩ := hX.ex
  have ho := Only.of_grown (F := fun k => k = mb) hgr (fun k e => by simpa using e.symm)
  have hbase := (hX.arr (mb, o) (by simp)).2
  refine ⟨w', [(mb, o4), x], hrun, ⟨⟨Fd, gr, bn, bt, hi.only ho (fun k hk e => (hF k hk).2 (mb, o) (by simp) e), fun k hk => ⟨(hF k hk).1, fun y hy => ?_⟩⟩,
    hX.bel.trans (ho.base hX.bel.size (fun k hk => by have e : k = mb := hk; rw [e]; exact hbase)), fun y hy => ?_⟩, o4, rfl, hne, fun W hW => MapN.block hm ho4 hW⟩
  · rcases List.mem_cons.1 hy with rfl | hy
    · exact (hF k hk).2 (mb, o) (by simp)
    · exact (hF k hk).2 y (by simp [hy])
  · rcases List.mem_cons.1 hy with rfl | hy
    · exact ⟨ho4, hbase⟩
    · obtain ⟨h1, h2⟩ := hX.arr y (by simp [hy])
      have ey : y = x := by simpa using hy
      exact ⟨(hgr.block y.1 (Array.getElem?_eq_some_iff.1 h1).1 (by rw [ey]; simp; exact fun e => hne e.symm)).trans h1, h2⟩
end
theorem Holds.zero (D : DataW Unit) (f : Nat → Nat) : Holds D f 0 := fun j hj => by omega
theorem Holds.put {D : DataW Unit} {f : Nat → Nat} {i p : Nat} (h : Holds D f i) (hD : IsMap D) (hi : i < 9223372036854775807) : Holds (D.put (ikl i) (.lit (.int .i64 (p : Nat)))) (updF f i p) (i + 1) := fun j hj z => by
  unfold updF
  by_cases e : j = i
  · subst e; rw [if_pos rfl]; exact atKey_put_same hD (keyedInt.key (key_n hi)) _ z
  · rw [if_neg e, atKey_put_other (fun e2 => e (ikl_inj e2))]; exact h j (by omega) z
theorem MT.isMap {x : Nat × Obj} {mb nn : Nat} {T : List (Nat × Obj)} {D : DataW Unit} {b : Bk} {gd g : Nat} {w0 w : World} (h : MT x mb T nn D) (hX : OwnX b gd g T w0 w) : IsMap D := World.ownsMap.isMap (h.map hX)
theorem owns_form {w : World} {B : Nat} {e : TypeId} {s n : Nat} {v : Value} {xs : List Value} (h : w.ownsRow B e s v n xs) : ∃ ap cap, v = .slice ap n cap := by
  obtain ⟨h1, h2⟩ := h
  rcases h2 with ⟨rfl, h0⟩ | ⟨g, cap, cur, rfl, _⟩
  · subst h0; exact ⟨none, 0, rfl⟩
  · exact ⟨_, cap, rfl⟩
end Go.Proofs.YtopjhgpgompenaaGreatDoor
