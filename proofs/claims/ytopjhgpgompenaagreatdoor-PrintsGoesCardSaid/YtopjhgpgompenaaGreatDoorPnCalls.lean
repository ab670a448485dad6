/-
  Package prints: Find, Free, Slot, All, New.
-/
import Derived.Test.YtopjhgpgompenaaGreatDoorPnSet
set_option linter.unusedSimpArgs false
set_option linter.unusedVariables false
namespace Go.Proofs.YtopjhgpgompenaaGreatDoor
open Go.RowKit Sh Go.Maps Go.Extern.Stop Go.Stop Go.Extern

def LkP (a : Int) (ok : Bool) (k : Int) (w : World) (e : Ending) (w' : World) : Prop := ∃ v, e = .returned (.tuple #[.int .i64 a, .bool ok, v]) ∧ ErrV w' k v ∧ Below w.heap.size w w'
def FrP (a : Int) (k : Int) (w : World) (e : Ending) (w' : World) : Prop := ∃ v, e = .returned (.tuple #[.int .i64 a, v]) ∧ ErrV w' k v ∧ Below w.heap.size w w'
theorem LookP.lk {r : Option Nat} {w w' : World} {e : Ending} (h : LookP r w e w') : LkP ((r.getD 0 : Nat) : Int) r.isSome 0 w e w' := by
  cases r with
  | none => exact ⟨.nilIface, h.1, ErrV.nil, h.2⟩
  | some i => exact ⟨.nilIface, h.1, ErrV.nil, h.2⟩
theorem look_nil (a : Int) (fv : Value) (w : World) : Calls Tryz.prog 77 #[.pointer none, .int .i64 a, fv] w (LkP 0 false 1 w) := by
  have Hfin := Lib.hid (show LkP 0 false 1 w (.returned (.tuple #[.int .i64 0, .bool false, .iface 108 (.int .i64 1)])) w from ⟨_, rfl, .inr ⟨by decide, [], rfl⟩, Below.refl _ _⟩)
  go_enter Tryz.func77, Tryz.ntmps77
  go_wp2
  first | exact Hfin.out | (go_ret; exact Hfin.out) | refine bodyPost_ret (v := .tuple #[.int .i64 0, .bool false, .iface 108 (.int .i64 1)]) (by simp [results, Tryz.results77, go_sem]) rfl Hfin.out
section
variable {w : World}
set_option maxRecDepth 100000 in
set_option maxHeartbeats 4000000 in
theorem pFind_of {bp : Value} {d : List UInt8} (hd : d.length = 32) {a k : Int} {ok : Bool}
    (h : ∀ W c, W.heap[c]? = some (.cells (d.map cu8).toArray 71 (0, 0)) → Below w.heap.size w W → Calls Tryz.prog 77 #[bp, .int .i64 (homeD d : Nat), .func (.func 79) #[] #[.pointer (some ⟨c, 0, none⟩)]] W (LkP a ok k W)) :
    Calls Tryz.prog 36 #[bp, digV d] w (LkP a ok k w) := by
  obtain ⟨dv, Hdv⟩ : ∃ dv : List Value, Hid (dv = d.map cu8) := ⟨_, rfl⟩
  have hV : digV d = .agg dv.toArray := by rw [Hdv.out]; rfl
  have hdi : Hid ((Tryz.prog.info? 71).map (·.size) = some dv.toArray.size) := by rw [Hdv.out, List.size_toArray, List.length_map, hd]; exact info32
  have hb1 : Below w.heap.size w (w.alloc (.cells dv.toArray 71)) := (Below.refl _ _).alloc (Nat.le_refl _) _
  have hx1 : (w.alloc (.cells dv.toArray 71)).heap[w.heap.size]? = some (.cells dv.toArray 71 (0, 0)) := heap_alloc_new w _
  have hhm := fun W => home_any d hd W
  rw [hV] at hhm ⊢
  obtain ⟨hh, hhe⟩ : ∃ hh, homeD d = hh := ⟨_, rfl⟩
  rw [hhe] at hhm h
  have Hhm := Lib.hid hhm; have HlkW := Lib.hid h
  clear h hV hhm hhe
  go_enter Tryz.func36, Tryz.ntmps36
  go_wp2_with (first
    | (refine wpList_load_row rfl 71 _ rfl w.heap.size rfl 71 dv.toArray (0, 0) _ hx1 Tryz.underlying71 rfl hdi.out ?_)
    | (go_at_call 78; refine (Hhm.out _).mono ?_))
  rintro e w2 ⟨rfl, hb2⟩
  have hx2 := (hb2.block w.heap.size (Array.getElem?_eq_some_iff.1 hx1).1).trans hx1
  have hbw2 := hb1.trans (hb2.mono hb1.size)
  obtain ⟨c, hc⟩ : ∃ c, w.heap.size = c := ⟨_, rfl⟩
  have Hlk := Lib.hid (HlkW.out w2 c (by rw [← hc, hx2, Hdv.out]) hbw2)
  have Hbw2 := Lib.hid hbw2
  rw [hc]
  have Hc := Lib.hid hc
  clear hc hb1 hb2 hx1 hx2 hbw2 HlkW Hhm
  go_wp2_with (first
    | (go_at_call 77; refine Hlk.out.mono ?_))
  rintro e w3 ⟨v, rfl, hE, hb3⟩
  have Hi := Lib.hid (in_err ⟨#[112, 114, 105, 110, 116, 115, 46, 70, 105, 110, 100]⟩ _ v w3 hE)
  have Hbw3 := Lib.hid (Hbw2.out.trans (hb3.mono Hbw2.out.size))
  clear hE hb3 Hlk
  go_wp2_with (first | (go_at_call 49; refine Hi.out.mono ?_))
  rintro e w4 ⟨v2, rfl, hE2, hb4⟩
  have Hfin := Lib.hid (show LkP a ok k w (.returned (.tuple #[.int .i64 a, .bool ok, v2])) w4 from ⟨v2, rfl, hE2, Hbw3.out.trans (hb4.mono Hbw3.out.size)⟩)
  clear hE2 hb4 Hi
  go_wp2
  first | exact Hfin.out | (go_ret; exact Hfin.out) | refine bodyPost_ret (v := .tuple #[.int .i64 a, .bool ok, v2]) (by simp [results, Tryz.results36, go_sem]) rfl Hfin.out
set_option maxRecDepth 100000 in
set_option maxHeartbeats 4000000 in
theorem pSlot_of {bp : Value} {s : Int} {a k : Int} {ok : Bool}
    (h : ∀ W c, W.cell? ⟨c, 0, none⟩ = some (.int .i64 s) → c < W.heap.size → Below w.heap.size w W → Calls Tryz.prog 77 #[bp, .int .i64 0, .func (.func 81) #[] #[.pointer (some ⟨c, 0, none⟩)]] W (LkP a ok k W)) :
    Calls Tryz.prog 38 #[bp, .int .i64 s] w (LkP a ok k w) := by
  have hb1 : Below w.heap.size w (w.alloc (.cells #[.int .i64 s] 3)) := (Below.refl _ _).alloc (Nat.le_refl _) _
  have hx1 : (w.alloc (.cells #[.int .i64 s] 3)).heap[w.heap.size]? = some (.cells #[.int .i64 s] 3 (0, 0)) := heap_alloc_new w _
  have Hlk := Lib.hid (h (w.alloc (.cells #[.int .i64 s] 3)) w.heap.size (by rw [cell_of_row _ _ 0 _ _ _ hx1]; rfl) (Array.getElem?_eq_some_iff.1 hx1).1 hb1)
  have Hbw2 := Lib.hid hb1
  clear h hx1 hb1
  go_enter Tryz.func38, Tryz.ntmps38
  go_wp2_with (first
    | (go_at_call 77; refine Hlk.out.mono ?_))
  rintro e w3 ⟨v, rfl, hE, hb3⟩
  have Hi := Lib.hid (in_err ⟨#[112, 114, 105, 110, 116, 115, 46, 83, 108, 111, 116]⟩ _ v w3 hE)
  have Hbw3 := Lib.hid (Hbw2.out.trans (hb3.mono Hbw2.out.size))
  clear hE hb3 Hlk
  go_wp2_with (first | (go_at_call 49; refine Hi.out.mono ?_))
  rintro e w4 ⟨v2, rfl, hE2, hb4⟩
  have Hfin := Lib.hid (show LkP a ok k w (.returned (.tuple #[.int .i64 a, .bool ok, v2])) w4 from ⟨v2, rfl, hE2, Hbw3.out.trans (hb4.mono Hbw3.out.size)⟩)
  clear hE2 hb4 Hi
  go_wp2
  first | exact Hfin.out | (go_ret; exact Hfin.out) | refine bodyPost_ret (v := .tuple #[.int .i64 a, .bool ok, v2]) (by simp [results, Tryz.results38, go_sem]) rfl Hfin.out
/-- What Free's error is. -/
def frK (ok : Bool) (k : Int) : Int := if k = 0 then (if ok then 0 else 21) else k
set_option maxRecDepth 100000 in
set_option maxHeartbeats 8000000 in
theorem pFree_of {bp : Value} {d : List UInt8} (hd : d.length = 32) {a k : Int} {ok : Bool}
    (h : ∀ W, Below w.heap.size w W → Calls Tryz.prog 77 #[bp, .int .i64 (homeD d : Nat), .func (.func 80) #[] #[]] W (LkP a ok k W)) :
    Calls Tryz.prog 37 #[bp, digV d] w (FrP a (frK ok k) w) := by
  obtain ⟨dv, Hdv⟩ : ∃ dv : List Value, Hid (dv = d.map cu8) := ⟨_, rfl⟩
  have hV : digV d = .agg dv.toArray := by rw [Hdv.out]; rfl
  have hdi : Hid ((Tryz.prog.info? 71).map (·.size) = some dv.toArray.size) := by rw [Hdv.out, List.size_toArray, List.length_map, hd]; exact info32
  have hb1 : Below w.heap.size w (w.alloc (.cells dv.toArray 71)) := (Below.refl _ _).alloc (Nat.le_refl _) _
  have hx1 : (w.alloc (.cells dv.toArray 71)).heap[w.heap.size]? = some (.cells dv.toArray 71 (0, 0)) := heap_alloc_new w _
  have hhm := fun W => home_any d hd W
  rw [hV] at hhm ⊢
  obtain ⟨hh, hhe⟩ : ∃ hh, homeD d = hh := ⟨_, rfl⟩
  rw [hhe] at hhm h
  have Hhm := Lib.hid hhm; have HlkW := Lib.hid h
  obtain ⟨kk, hkk⟩ : ∃ kk, frK ok k = kk := ⟨_, rfl⟩
  have Hkk := Lib.hid hkk
  rw [hkk]
  clear h hV hhm hhe hkk
  go_enter Tryz.func37, Tryz.ntmps37
  go_wp2_with (first
    | (refine wpList_load_row rfl 71 _ rfl w.heap.size rfl 71 dv.toArray (0, 0) _ hx1 Tryz.underlying71 rfl hdi.out ?_)
    | (go_at_call 78; refine (Hhm.out _).mono ?_))
  rintro e w2 ⟨rfl, hb2⟩
  have hbw2 := hb1.trans (hb2.mono hb1.size)
  have Hlk := Lib.hid (HlkW.out w2 hbw2)
  have Hbw2 := Lib.hid hbw2
  clear hb1 hb2 hx1 hbw2 HlkW Hhm
  go_wp2_with (first
    | (go_at_call 77; refine Hlk.out.mono ?_))
  rintro e w3 ⟨v, rfl, hE, hb3⟩
  have Hbw3 := Lib.hid (Hbw2.out.trans (hb3.mono Hbw2.out.size))
  have hke := Hkk.out
  unfold frK at hke
  by_cases h0 : k = 0
  · rw [if_pos h0] at hke
    subst h0
    obtain rfl := ErrV.zero hE
    cases ok with
    | true =>
      have hke2 : (0 : Int) = kk := hke
      subst hke2
      have Hi := Lib.hid (in_err ⟨#[112, 114, 105, 110, 116, 115, 46, 70, 114, 101, 101]⟩ _ .nilIface w3 ErrV.nil)
      clear hE hb3 Hlk hke Hkk
      go_wp2_with (first | (go_at_call 49; refine Hi.out.mono ?_))
      rintro e w4 ⟨v2, rfl, hE2, hb4⟩
      have Hfin := Lib.hid (show FrP a 0 w (.returned (.tuple #[.int .i64 a, v2])) w4 from ⟨v2, rfl, hE2, Hbw3.out.trans (hb4.mono Hbw3.out.size)⟩)
      clear hE2 hb4 Hi
      go_wp2
      first | exact Hfin.out | (go_ret; exact Hfin.out) | refine bodyPost_ret (v := .tuple #[.int .i64 a, v2]) (by simp [results, Tryz.results37, go_sem]) rfl Hfin.out
    | false =>
      have hke2 : (21 : Int) = kk := hke
      subst hke2
      have Hi := Lib.hid (in_err ⟨#[112, 114, 105, 110, 116, 115, 46, 70, 114, 101, 101]⟩ 21 (.iface 108 (.int .i64 21)) w3 (.inr ⟨by decide, [], rfl⟩))
      clear hE hb3 Hlk hke Hkk
      go_wp2_with (first | (go_at_call 49; refine Hi.out.mono ?_))
      rintro e w4 ⟨v2, rfl, hE2, hb4⟩
      have Hfin := Lib.hid (show FrP a 21 w (.returned (.tuple #[.int .i64 a, v2])) w4 from ⟨v2, rfl, hE2, Hbw3.out.trans (hb4.mono Hbw3.out.size)⟩)
      clear hE2 hb4 Hi
      go_wp2
      first | exact Hfin.out | (go_ret; exact Hfin.out) | refine bodyPost_ret (v := .tuple #[.int .i64 a, v2]) (by simp [results, Tryz.results37, go_sem]) rfl Hfin.out
  · rw [if_neg h0] at hke
    subst hke
    obtain ⟨t, z, rfl⟩ := hE.held h0
    have heq : ∀ W : World, (binOp .eql 25 (.iface t z) .nilIface).run Tryz.prog W = .ok (.bool false) W := fun W => run_eql_held_nil W 25 _ _ Tryz.methodsError
    have Hi := Lib.hid (in_err ⟨#[112, 114, 105, 110, 116, 115, 46, 70, 114, 101, 101]⟩ _ (.iface t z) w3 hE)
    clear hE hb3 Hlk Hkk
    go_wp2_with (first | (go_at_call 49; refine Hi.out.mono ?_))
    rintro e w4 ⟨v2, rfl, hE2, hb4⟩
    have Hfin := Lib.hid (show FrP a k w (.returned (.tuple #[.int .i64 a, v2])) w4 from ⟨v2, rfl, hE2, Hbw3.out.trans (hb4.mono Hbw3.out.size)⟩)
    clear hE2 hb4 Hi
    go_wp2
    first | exact Hfin.out | (go_ret; exact Hfin.out) | refine bodyPost_ret (v := .tuple #[.int .i64 a, v2]) (by simp [results, Tryz.results37, go_sem]) rfl Hfin.out
end
theorem pFind_nil (d : List UInt8) (hd : d.length = 32) (w : World) : Calls Tryz.prog 36 #[.pointer none, digV d] w (LkP 0 false 1 w) := pFind_of hd (fun W _ _ _ => look_nil _ _ W)
theorem pSlot_nil (s : Int) (w : World) : Calls Tryz.prog 38 #[.pointer none, .int .i64 s] w (LkP 0 false 1 w) := pSlot_of (fun W _ _ _ _ => look_nil _ _ W)
theorem pFree_nil (d : List UInt8) (hd : d.length = 32) (w : World) : Calls Tryz.prog 37 #[.pointer none, digV d] w (FrP 0 1 w) := pFree_of hd (fun W _ => look_nil _ _ W)
section
variable {b : Bk} {gd g first n x : Nat} {T : List (Nat × Obj)} {w0 w : World} {es : List Ent}
theorem home_le (d : List UInt8) : homeD d ≤ 65535 := by
  unfold homeD
  have := (at8 d 0).toNat_lt; have := (at8 d 1).toNat_lt
  omega
/-- Find. -/
theorem OwnX.pFind (h : OwnX b gd g T w0 w) (hT : (x, tabO g first n) ∈ T) (hTa : Ta b first n es) (hf : first ≤ 2000) (hn : n ≤ 2000) (h1 : 1 ≤ n) (d : List UInt8) (hd : d.length = 32) :
    Calls Tryz.prog 36 #[.pointer (some ⟨x, 0, none⟩), digV d] w (LkP (((lookL (fitF d) es n (homeD d)).getD 0 : Nat) : Int) (lookL (fitF d) es n (homeD d)).isSome 0 w) :=
  pFind_of hd (fun W c hc hb => (look_find (h.below hb) hT hTa hf hn h1 (homeD d) (by have := home_le d; omega) c d hd hc).mono fun _ _ h => h.lk)
/-- Slot. -/
theorem OwnX.pSlot (h : OwnX b gd g T w0 w) (hT : (x, tabO g first n) ∈ T) (hTa : Ta b first n es) (hf : first ≤ 2000) (hn : n ≤ 2000) (h1 : 1 ≤ n) (s : Int) :
    Calls Tryz.prog 38 #[.pointer (some ⟨x, 0, none⟩), .int .i64 s] w (LkP (((lookL (fitS s) es n 0).getD 0 : Nat) : Int) (lookL (fitS s) es n 0).isSome 0 w) :=
  pSlot_of (fun W c hc hcl hb => (look_slot (h.below hb) hT hTa hf hn h1 0 (by omega) c s hc hcl).mono fun _ _ h => h.lk)
/-- Free. -/
theorem OwnX.pFree (h : OwnX b gd g T w0 w) (hT : (x, tabO g first n) ∈ T) (hTa : Ta b first n es) (hf : first ≤ 2000) (hn : n ≤ 2000) (h1 : 1 ≤ n) (d : List UInt8) (hd : d.length = 32) :
    Calls Tryz.prog 37 #[.pointer (some ⟨x, 0, none⟩), digV d] w (FrP (((lookL fitO es n (homeD d)).getD 0 : Nat) : Int) (if (lookL fitO es n (homeD d)).isSome then 0 else 21) w) :=
  pFree_of hd (fun W hb => (look_free (h.below hb) hT hTa hf hn h1 (homeD d) (by have := home_le d; omega)).mono fun _ _ h => h.lk)
end
end Go.Proofs.YtopjhgpgompenaaGreatDoor
