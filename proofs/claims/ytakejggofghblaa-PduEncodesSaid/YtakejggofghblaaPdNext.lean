/-
  (*pdu.Reader).Next.
-/
import Derived.Test.YtakejggofghblaaPdFirstL
set_option linter.unusedSimpArgs false
set_option linter.unusedVariables false
namespace Go.Proofs.Ytakejggofghblaa
open Go.RowKit Sh Cr Pd

theorem first_any {w : World} {bp : Option Addr} {len cap : Nat} {B : List UInt8} (h d : Bool) (hB : Bytes w.heap.size w bp len cap B) : Calls Try.prog 27 #[.slice bp len cap, .bool h, .bool d] w (FirstP w (firstB B h d)) := by
  by_cases h0 : len < 48
  · exact first_short hB h0
  · obtain ⟨g, o, rfl, _, _⟩ := hB.at (by omega)
    exact first_long h d hB (Nat.le_refl _) (by omega)
theorem OwR.keep {w W W' : World} {v : Value} {l : List UInt8} {G : Nat → Prop} (h : OwR w W v l) (ho : Onl G W W') (hG : ∀ k, w.heap.size ≤ k → k < W.heap.size → ¬ G k) : OwR w W' v l := by
  refine ⟨h.1, h.2.imp id fun ⟨g, cap, cur, h1, h2, h3, h4⟩ => ⟨g, cap, cur, h1, h2, ?_, h4⟩⟩
  have hl := (Array.getElem?_eq_some_iff.1 h3).1
  exact (ho.block g hl (hG g h2 hl)).trans h3
theorem PduO.keep {w W W' : World} {p : P} {cs : Array Value} {G : Nat → Prop} (h : PduO w W p cs) (ho : Onl G W W') (hG : ∀ k, w.heap.size ≤ k → k < W.heap.size → ¬ G k) : PduO w W' p cs := by
  obtain ⟨av, dv, h1, h2, h3⟩ := h
  exact ⟨av, dv, h1, h2.keep ho hG, h3.keep ho hG⟩
theorem PduO.rebase {w w1 W : World} {p : P} {cs : Array Value} (h : PduO w1 W p cs) (hb : w.heap.size ≤ w1.heap.size) : PduO w W p cs := by
  obtain ⟨av, dv, h1, h2, h3⟩ := h
  have r : ∀ {v l}, OwR w1 W v l → OwR w W v l := fun h => ⟨h.1, h.2.imp id fun ⟨g, cap, cur, e1, e2, e3⟩ => ⟨g, cap, cur, e1, Nat.le_trans hb e2, e3⟩⟩
  exact ⟨av, dv, h1, r h2, r h3⟩
theorem PduO.grown {w W W' : World} {p : P} {cs cs' : Array Value} {g : Nat} (h : PduO w W p cs) (hg : W.heap[g]? = some (.cells cs' 28 (0, 0))) (hgr : W.grownBy W' (some g)) : PduO w W' p cs := by
  obtain ⟨av, dv, h1, h2, h3⟩ := h
  exact ⟨av, dv, h1, h2.grown hg ne5 hgr, h3.grown hg ne5 hgr⟩
theorem PduO.one {w W : World} {p : P} {cs : Array Value} (h : PduO w W p cs) : Hid (cs.all (·.oneCell') = true) := h.v.one
theorem PduO.size {w W : World} {p : P} {cs : Array Value} (h : PduO w W p cs) : Hid (cs.size = 16) := h.v.size
theorem RdAt.cut {T : TypeId} {F : Nat → Prop} {g : Nat} {l : List UInt8} {k : Bool} {W : World} (h : RdAt T F g l k W) : RdAt T (fun j => F j ∧ j < W.heap.size) g l k W := by
  obtain ⟨v, h1, h2⟩ := h.lies
  refine ⟨⟨h.hF, h.lt⟩, v, h1, ?_⟩
  rcases h2 with h2 | ⟨b, off, cap, cur, e1, e2, e3, e4⟩
  · exact .inl h2
  · exact .inr ⟨b, off, cap, cur, e1, ⟨e2, (Array.getElem?_eq_some_iff.1 e3).1⟩, e3, e4⟩
theorem firstB_bad {l : List UInt8} {h d : Bool} (hc : (firstB l h d).2.1 = 3) : (firstB l h d).2.2 = 0 := by
  unfold firstB at hc ⊢
  split <;> rename_i h0
  · rfl
  · rw [if_neg h0] at hc
    split <;> rename_i h1
    · rfl
    · rw [if_neg h1] at hc
      split <;> rename_i h2
      · rfl
      · rw [if_neg h2] at hc
        split <;> rename_i h3
        · rfl
        · rw [if_neg h3] at hc
          split <;> rename_i h4
          · rfl
          · rw [if_neg h4] at hc
            split <;> rename_i h5
            · rw [if_pos h5] at hc; cases hc
            · rw [if_neg h5] at hc; cases hc
theorem firstB_le (l : List UInt8) (h d : Bool) : (firstB l h d).2.2 ≤ l.length := by
  unfold firstB
  split
  · exact Nat.zero_le _
  · split
    · exact Nat.zero_le _
    · split
      · exact Nat.zero_le _
      · split
        · exact Nat.zero_le _
        · split <;> rename_i h4
          · exact Nat.zero_le _
          · split
            · show allE l h d ≤ _; omega
            · show allE l h d ≤ _; omega
/-- What Next leaves. -/
def NextP (T : TypeId) (F : Nat → Prop) (g : Nat) (r : (P × Nat) × (List UInt8 × Bool)) (w : World) (e : Ending) (w' : World) : Prop :=
  ∃ cs, e = .returned (.tuple #[.agg cs, .int .i64 (r.1.2 : Int)]) ∧ PduO w w' r.1.1 cs ∧ RdAt T F g r.2.1 r.2.2 w' ∧ Onl F w w'
/-- .. of no reader. -/
def NoneP (w : World) (e : Ending) (w' : World) : Prop := e = .returned (.tuple #[.agg zP, .int .i64 3]) ∧ Below w.heap.size w w'
theorem results_cell_row_tmp {P : Program} {fn : Func} {p u : Tmp} {ty : TypeId} (h : fn.results = #[.cell p ty, .tmp u]) (tmps : Array Value) (w : World) (g : Nat) (t : TypeId) (cs : Array Value) (fr : Nat × Nat) (d : TypeDesc)
    (hp : tmps.getD p undef = .pointer (some ⟨g, 0, none⟩)) (hg : w.heap[g]? = some (.cells cs t fr))
    (hu : P.underlying ty = some d) (hd : (match d with | .struct _ | .array _ _ => true | _ => false) = true) (hi : (P.info? ty).map (·.size) = some cs.size) (x : Value) (hx : tmps.getD u undef = x) :
    (results fn tmps).run P w = .ok (.tuple #[.agg cs, x]) w := by
  have hp' : tmps[p]?.getD undef = .pointer (some ⟨g, 0, none⟩) := by simpa using hp
  have hx' : tmps[u]?.getD undef = x := by simpa using hx
  simp [results, h, hp', hx', asAddr, run_loadVar_row w g t ty cs fr d hg hu hd hi]
theorem RdAt.setK {T : TypeId} {F : Nat → Prop} {g : Nat} {W : World} {v : Value} {l' : List UInt8} {k k' : Bool} (h1 : W.heap[g]? = some (.cells #[v, .bool k] T (0, 0))) (hF : F g) (hT : T ≠ 5) (h2 : WaitAt F W v l') : RdAt T F g l' k' (W.setCell ⟨g, 1, none⟩ (.bool k')) := by
  refine ⟨hF, v, by simp [World.setCell, Array.getElem?_modify, h1], h2.keep fun j hj => Below.heap_setCell W ⟨g, 1, none⟩ _ j (fun e => ?_)⟩
  rcases h2 with ⟨rfl, _⟩ | ⟨b, off, cap, cur, rfl, _, hb, _⟩
  · cases hj
  · simp only [Value.ownBlock, Option.some.injEq] at hj
    have e' : g = j := e.symm
    rw [hj, ← e', h1] at hb
    injection hb with hb
    injection hb with _ hb2
    exact hT hb2
section
variable {w : World} {h d : Bool}
set_option maxRecDepth 100000 in
set_option maxHeartbeats 2000000 in
theorem next_nil : Calls Try.prog 16 #[.pointer none, .bool h, .bool d] w (NoneP w) := by
  have hz : Hid ((w.alloc (.cells zP 28)).heap[w.heap.size]? = some (.cells zP 28 (0, 0))) := Lib.hid (heap_alloc_new w _)
  have HB : Hid (Below w.heap.size w (w.alloc (.cells zP 28))) := Lib.hid ((Below.refl _ w).alloc (Nat.le_refl _) _)
  go_enter Try.func16, Try.ntmps16
  go_wp2_with (first
    | (refine wpList_alloc_arr rfl 28 rfl _ allocPdu ?_)
    | (refine wpList_buildP 28 _ rfl zP builtZ (by rfl) ?_)
    | (refine wpList_store_row rfl 28 _ _ rfl w.heap.size zP rfl rfl 28 zP hz.out infoPdu rfl zP_one ?_))
  refine bodyPost_ret (v := .tuple #[.agg zP, .int .i64 3]) ?_ rfl ⟨rfl, below_setRow HB.out (Nat.le_refl _) zP⟩
  exact results_cell_row_tmp (ty := 28) rfl _ _ w.heap.size 28 zP (0, 0) _ rfl (setRow_heap _ _ _ _ _ _ hz.out) Try.underlying28 rfl infoPdu _ rfl
set_option maxRecDepth 100000 in
set_option maxHeartbeats 2000000 in
theorem next_broken {F : Nat → Prop} {g : Nat} {l : List UInt8} (hR : RdAt 36 F g l true w) : Calls Try.prog 16 #[.pointer (some ⟨g, 0, none⟩), .bool h, .bool d] w (NextP 36 F g (nextB l true h d) w) := by
  have hz : Hid ((w.alloc (.cells zP 28)).heap[w.heap.size]? = some (.cells zP 28 (0, 0))) := Lib.hid (heap_alloc_new w _)
  have HB : Hid (Below w.heap.size w (w.alloc (.cells zP 28))) := Lib.hid ((Below.refl _ w).alloc (Nat.le_refl _) _)
  have HR := Lib.hid hR
  obtain ⟨v, hv, hW⟩ := (hR.below HB.out).lies
  have c1 := cell_of_row _ g 1 _ _ _ hv
  clear hR hv hW
  go_enter Try.func16, Try.ntmps16
  go_wp2_with (first
    | (refine wpList_alloc_arr rfl 28 rfl _ allocPdu ?_)
    | (refine wpList_buildP 28 _ rfl zP builtZ (by rfl) ?_)
    | (refine wpList_store_row rfl 28 _ _ rfl w.heap.size zP rfl rfl 28 zP hz.out infoPdu rfl zP_one ?_))
  have hb := below_setRow HB.out (Nat.le_refl _) zP
  refine bodyPost_ret (v := .tuple #[.agg zP, .int .i64 3]) ?_ rfl ⟨zP, rfl, PduO.zero _ _, HR.out.below hb, Onl.of_below hb⟩
  exact results_cell_row_tmp (ty := 28) rfl _ _ w.heap.size 28 zP (0, 0) _ rfl (setRow_heap _ _ _ _ _ _ hz.out) Try.underlying28 rfl infoPdu _ rfl
set_option maxRecDepth 100000 in
set_option maxHeartbeats 8000000 in
theorem next_on {F : Nat → Prop} {g : Nat} {l : List UInt8} (hR : RdAt 36 F g l false w) (hF : ∀ k, F k → k < w.heap.size) : Calls Try.prog 16 #[.pointer (some ⟨g, 0, none⟩), .bool h, .bool d] w (NextP 36 F g (nextB l false h d) w) := by
  have hz : Hid ((w.alloc (.cells zP 28)).heap[w.heap.size]? = some (.cells zP 28 (0, 0))) := Lib.hid (heap_alloc_new w _)
  have HB : Hid (Below w.heap.size w (w.alloc (.cells zP 28))) := Lib.hid ((Below.refl _ w).alloc (Nat.le_refl _) _)
  have HR1 := Lib.hid (hR.below HB.out)
  have hs1 : Hid (w.heap.size < (w.alloc (.cells zP 28)).heap.size) := Lib.hid (by simp)
  have HF := Lib.hid hF
  clear hR hF
  obtain ⟨v, hv, hW⟩ := HR1.out.lies
  obtain ⟨bp, cap, rfl, hBy⟩ := hW.bytes
  have c0 := cell_of_row _ g 0 _ _ _ hv
  have c1 := cell_of_row _ g 1 _ _ _ hv
  have HFI := Lib.hid (first_any h d hBy)
  obtain ⟨p, c, n, hpc⟩ : ∃ p c n, Hid (firstB l h d = (p, c, n)) := ⟨_, _, _, Lib.hid rfl⟩
  rw [hpc.out] at HFI
  clear hv hW hBy
  go_enter Try.func16, Try.ntmps16
  go_upto_region 1 with (refine wpList_alloc_arr rfl 28 rfl _ allocPdu ?_)
  generalize w.alloc (.cells zP 28) = w1 at hz HB HR1 hs1 c0 c1 HFI ⊢
  go_upto_region 4 with (first
    | (go_at_call 27; refine HFI.out.mono ?_; rintro e w2 ⟨cs, rfl, hO2, hb2⟩; have HO2 := Lib.hid hO2; have HB2 := Lib.hid hb2; have hcz := hO2.size; have hc1 := hO2.one; clear HFI hb2 hO2)
    | (refine wpList_alloc_arr rfl 28 rfl _ allocPdu ?_)
    | (refine wpList_store_new rfl 28 _ _ rfl w2.heap.size rfl cs rfl rfl 28 zP (by rw [hcz.out]; exact infoPdu) (by rw [hcz.out]; rfl) hc1.out ?_))
  have hba : Below w2.heap.size w2 (w2.alloc (.cells cs 28)) := (Below.refl _ _).alloc (Nat.le_refl _) _
  have hb3 : Below w1.heap.size w1 (w2.alloc (.cells cs 28)) := HB2.out.trans (hba.mono HB2.out.size)
  have HX3 : Hid ((w2.alloc (.cells cs 28)).heap[w2.heap.size]? = some (.cells cs 28 (0, 0))) := Lib.hid (heap_alloc_new w2 _)
  have HZ3 := Lib.hid ((hb3.block _ hs1.out).trans hz.out)
  have HR3 := Lib.hid (HR1.out.below hb3)
  have HO3 := Lib.hid ((HO2.out.rebase (w := w) (by have := hs1.out; omega)).next hba)
  have HN3 : Hid (Onl F w (w2.alloc (.cells cs 28))) := Lib.hid (Onl.of_below (HB.out.trans (hb3.mono HB.out.size)))
  have hg8 : w.heap.size < w2.heap.size := by have := hs1.out; have := HB2.out.size; omega
  clear hba hb3 hz HB HR1 hs1 c0 c1 HO2 HB2
  generalize w2.alloc (.cells cs 28) = w3 at HX3 HZ3 HR3 HO3 HN3 ⊢
  generalize w2.heap.size = g8 at HX3 hg8 ⊢
  have HEND : Hid (∀ (l' : List UInt8) (k' : Bool) (w5 : World), nextB l false h d = ((p, c), (l', k')) → RdAt 36 F g l' k' w5 → Onl F w3 w5 →
      w5.heap[w.heap.size]? = some (.cells zP 28 (0, 0)) ∧ w5.heap[g8]? = some (.cells cs 28 (0, 0)) ∧ NextP 36 F g (nextB l false h d) w (.returned (.tuple #[.agg cs, .int .i64 (c : Int)])) (w5.setRow w.heap.size cs)) := Lib.hid (fun l' k' w5 hn hr ho => by
    have hnF : ¬ F w.heap.size := fun e => Nat.lt_irrefl _ (HF.out _ e)
    have hnG : ¬ F g8 := fun e => by have := HF.out _ e; omega
    have z5 := (ho.block _ (Array.getElem?_eq_some_iff.1 HZ3.out).1 hnF).trans HZ3.out
    have hG : Onl (· = w.heap.size) w5 (w5.setRow w.heap.size cs) := Onl.of_grown (setRow_grown _ _ _) (fun k e => by injection e with e; exact e.symm)
    refine ⟨z5, (ho.block _ (Array.getElem?_eq_some_iff.1 HX3.out).1 hnG).trans HX3.out, cs, by rw [hn], ?_, ?_, (HN3.out.trans ho).chain hG (fun j e => .inr (by have e' : j = w.heap.size := e; omega))⟩
    · rw [hn]
      exact (HO3.out.keep ho (fun k hk _ e => by have := HF.out _ e; omega)).grown z5 (setRow_grown _ _ _)
    · rw [hn]
      exact hr.keep hG (fun j hj _ e => hnF (by have e' : j = w.heap.size := e; rw [← e']; exact hj)))
  have hle : n ≤ l.length := by have := firstB_le l h d; rw [hpc.out] at this; exact this
  by_cases h3 : c = 3
  · subst h3
    have hn0 : n = 0 := by have := firstB_bad (l := l) (h := h) (d := d) (by rw [hpc.out]); rw [hpc.out] at this; exact this
    subst hn0
    have HNX : Hid (nextB l false h d = ((p, 3), ([], true))) := Lib.hid (by unfold nextB; rw [hpc.out]; rfl)
    obtain ⟨v, hv, hW⟩ := HR3.out.lies
    have d0 := cell_of_row _ g 0 _ _ _ hv
    have f0 : w3.frozen? ⟨g, 0, none⟩ = false := by simp [World.frozen?, hv]
    have hR4 := RdAt.setW (k := false) hv HR3.out.hF ne36 (WaitAt.nil F w3)
    obtain ⟨v4, hv4, hW4⟩ := hR4.lies
    have d1 := cell_of_row _ g 1 _ _ _ hv4
    have f1 : (w3.setCell ⟨g, 0, none⟩ (.slice none 0 0)).frozen? ⟨g, 1, none⟩ = false := by simp [World.frozen?, hv4]
    have HR5 := Lib.hid (RdAt.setK (k' := true) hv4 HR3.out.hF ne36 hW4)
    have HO5 := Lib.hid ((set_onl w3 g 0 (.slice none 0 0) HR3.out.hF).trans (set_onl _ g 1 (.bool true) HR3.out.hF))
    clear hv hW hR4 hv4 hW4
    go_upto_region 6 with (fail)
    clear d0 d1 f0 f1
    generalize (w3.setCell ⟨g, 0, none⟩ (.slice none 0 0)).setCell ⟨g, 1, none⟩ (.bool true) = w4 at HR5 HO5 ⊢
    have HTK := Lib.hid (take_any F g [] true 0 (Nat.le_refl _) w4 HR5.out)
    go_upto_region 7 with (go_at_call 28; refine HTK.out.mono ?_; rintro e w5 ⟨rfl, hr5, ho5⟩; have HR5' := Lib.hid hr5; have HO5' := Lib.hid ho5; clear hr5 ho5 HTK)
    obtain ⟨z5, x5, hfin⟩ := HEND.out _ _ w5 HNX.out HR5'.out (HO5.out.trans HO5'.out)
    have HZ5 := Lib.hid z5
    have HFIN := Lib.hid hfin
    have hld := load_pdu x5 hcz
    clear z5 x5 hfin
    go_wp2_with (first
      | (refine wpList_val (by rfl) (exec_load _ _ 28 _ rfl g8 0 rfl cs hld) ?_; clear hld)
      | (refine wpList_store_row rfl 28 _ _ rfl w.heap.size cs rfl rfl 28 zP HZ5.out (by rw [hcz.out]; exact infoPdu) (by rw [hcz.out]; rfl) hc1.out ?_))
    refine bodyPost_ret ?_ rfl HFIN.out
    exact results_cell_row_tmp (ty := 28) rfl _ _ w.heap.size 28 cs (0, 0) _ rfl (setRow_heap _ _ _ _ _ _ HZ5.out) Try.underlying28 rfl (by rw [hcz.out]; exact infoPdu) _ rfl
  · have hne : ((c : Int) == 3) = false := by simpa using (by omega : (c : Int) ≠ 3)
    have HNX : Hid (nextB l false h d = ((p, c), (l.drop n, false))) := Lib.hid (by unfold nextB; rw [hpc.out]; simp [h3])
    clear h3
    go_upto_region 6 with (fail)
    have HTK := Lib.hid (take_any F g l false n (hle) w3 HR3.out)
    go_upto_region 7 with (go_at_call 28; refine HTK.out.mono ?_; rintro e w5 ⟨rfl, hr5, ho5⟩; have HR5' := Lib.hid hr5; have HO5' := Lib.hid ho5; clear hr5 ho5 HTK)
    obtain ⟨z5, x5, hfin⟩ := HEND.out _ _ w5 HNX.out HR5'.out (HO5'.out)
    have HZ5 := Lib.hid z5
    have HFIN := Lib.hid hfin
    have hld := load_pdu x5 hcz
    clear z5 x5 hfin
    go_wp2_with (first
      | (refine wpList_val (by rfl) (exec_load _ _ 28 _ rfl g8 0 rfl cs hld) ?_; clear hld)
      | (refine wpList_store_row rfl 28 _ _ rfl w.heap.size cs rfl rfl 28 zP HZ5.out (by rw [hcz.out]; exact infoPdu) (by rw [hcz.out]; rfl) hc1.out ?_))
    refine bodyPost_ret ?_ rfl HFIN.out
    exact results_cell_row_tmp (ty := 28) rfl _ _ w.heap.size 28 cs (0, 0) _ rfl (setRow_heap _ _ _ _ _ _ HZ5.out) Try.underlying28 rfl (by rw [hcz.out]; exact infoPdu) _ rfl
theorem next_any {F : Nat → Prop} {g : Nat} {l : List UInt8} {k : Bool} (hR : RdAt 36 F g l k w) : Calls Try.prog 16 #[.pointer (some ⟨g, 0, none⟩), .bool h, .bool d] w (NextP 36 F g (nextB l k h d) w) := by
  cases k
  · refine (next_on hR.cut (fun k hk => hk.2)).mono fun e w' ⟨cs, h1, h2, h3, h4⟩ => ⟨cs, h1, h2, h3.wider (fun _ h => h.1), h4.wider (fun _ h => h.1)⟩
  · exact next_broken hR
end
end Go.Proofs.Ytakejggofghblaa
