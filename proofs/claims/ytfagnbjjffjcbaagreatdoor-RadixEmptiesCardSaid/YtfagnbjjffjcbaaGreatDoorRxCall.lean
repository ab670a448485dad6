/-
  Package radix: Set; what is refused. Law 09's fresh and stands.
-/
import Derived.Test.YtfagnbjjffjcbaaGreatDoorRxSet
import Derived.Test.YtfagnbjjffjcbaaGreatDoorJDisk
set_option linter.unusedSimpArgs false
set_option linter.unusedVariables false
namespace Go.Proofs.YtfagnbjjffjcbaaGreatDoor
open Go.RowKit Sh Go.Maps Go.Extern.Stop Go.Stop Go.Extern

section
variable {b : Bk} {gd g first n x : Nat} {T : List (Nat × Obj)} {w0 w : World} {v : Nat → Nat}
set_option maxRecDepth 100000 in
theorem rSet_any (h : OwnX b gd g T w0 w) (hT : (x, foO g first n) ∈ T) (hF : Fo b first n v) (hf : first ≤ 2000) (hn : n ≤ 2000) (ht : b.txn.length ≤ 50) (lun block m : Nat) (h1 : lun < 4) (h2 : block < 256) (h3 : m < 16777216) :
    Calls Tryz.prog 19 #[.pointer (some ⟨x, 0, none⟩), .int .i64 lun, .int .i64 block, .int .i64 m] w (SetP b gd g T w0 first n v (lun * 256 + block) m) := by
  have Hc := Lib.hid (set1_any h hT hF hf hn ht lun block m h1 h2 h3)
  obtain ⟨X, hX⟩ : ∃ X, lun * 256 + block = X := ⟨_, rfl⟩
  rw [hX] at Hc ⊢
  clear h hF hX
  go_enter Tryz.func19, Tryz.ntmps19
  go_wp2_with (first
    | (go_at_call 43; refine Hc.out.mono ?_))
  rintro e w1 ⟨u, rfl, hor⟩
  obtain ⟨n', hE, hrest⟩ : ∃ n', ErrV w1 n' u ∧ ∀ w2 u2, ErrV w2 n' u2 → Below w1.heap.size w1 w2 → SetP b gd g T w0 first n v X m (.returned u2) w2 := by
    rcases hor with ⟨hE, t, hX, hF, hl⟩ | ⟨hE, hn, hX⟩
    · exact ⟨0, hE, fun w2 u2 h2 hb => ⟨u2, rfl, .inl ⟨h2, t, hX.below hb, hF, hl⟩⟩⟩
    · exact ⟨22, hE, fun w2 u2 h2 hb => ⟨u2, rfl, .inr ⟨h2, hn, hX.below hb⟩⟩⟩
  have Hi := Lib.hid (in_err ⟨#[114, 97, 100, 105, 120, 46, 83, 101, 116]⟩ n' u w1 hE)
  have Hrest := Lib.hid hrest
  clear hor hE hrest Hc
  go_wp2_with (first | (go_at_call 40; refine Hi.out.mono ?_))
  rintro e w2 ⟨u2, rfl, hE2, hb2⟩
  have Hfin := Lib.hid (Hrest.out w2 u2 hE2 hb2)
  clear hE2 hb2 Hi Hrest
  go_wp2
  first | exact Hfin.out | (go_ret; exact Hfin.out) | refine bodyPost_ret (v := u2) (by simp [results, Tryz.results19, go_sem]) rfl Hfin.out
set_option maxRecDepth 100000 in
/-- .. of what there isn't. -/
theorem set1_bad (p : Value) (lun block m : Int) (hh : Calls Tryz.prog 65 #[p, .int .i64 lun, .int .i64 block] w (SameQ (.bool false) w)) :
    Calls Tryz.prog 43 #[p, .int .i64 lun, .int .i64 block, .int .i64 m] w (InP 1 w) := by
  have Hh := Lib.hid hh
  have Hfin := Lib.hid (show InP 1 w (.returned (.iface 85 (.int .i64 1))) w from ⟨_, rfl, .inr ⟨by decide, [], rfl⟩, Below.refl _ _⟩)
  clear hh
  go_enter Tryz.func43, Tryz.ntmps43
  go_wp2_with (first
    | (go_at_call 65; refine Hh.out.mono ?_; rintro e w' ⟨rfl, rfl⟩))
  refine bodyPost_ret (v := .iface 85 (.int .i64 1)) (by simp [results, Tryz.results43, go_sem]) rfl Hfin.out
set_option maxRecDepth 100000 in
/-- .. and of numbers that can't be. -/
theorem set1_range (p : Value) (lun block m : Int) (hh : Calls Tryz.prog 65 #[p, .int .i64 lun, .int .i64 block] w (SameQ (.bool true) w)) (hm : m < 0 ∨ 16777215 < m) :
    Calls Tryz.prog 43 #[p, .int .i64 lun, .int .i64 block, .int .i64 m] w (InP 1 w) := by
  have Hh := Lib.hid hh
  have Hfin := Lib.hid (show InP 1 w (.returned (.iface 85 (.int .i64 1))) w from ⟨_, rfl, .inr ⟨by decide, [], rfl⟩, Below.refl _ _⟩)
  clear hh
  by_cases h0 : m < 0
  · clear hm
    go_enter Tryz.func43, Tryz.ntmps43
    go_wp2_with (first
      | (go_at_call 65; refine Hh.out.mono ?_; rintro e w' ⟨rfl, rfl⟩))
    refine bodyPost_ret (v := .iface 85 (.int .i64 1)) (by simp [results, Tryz.results43, go_sem]) rfl Hfin.out
  · have h1 : 16777215 < m := by omega
    clear hm
    go_enter Tryz.func43, Tryz.ntmps43
    go_wp2_with (first
      | (go_at_call 65; refine Hh.out.mono ?_; rintro e w' ⟨rfl, rfl⟩))
    refine bodyPost_ret (v := .iface 85 (.int .i64 1)) (by simp [results, Tryz.results43, go_sem]) rfl Hfin.out
set_option maxRecDepth 100000 in
theorem rSet_arg {p : Value} {lun block m k : Int} (h : Calls Tryz.prog 43 #[p, .int .i64 lun, .int .i64 block, .int .i64 m] w (InP k w)) :
    Calls Tryz.prog 19 #[p, .int .i64 lun, .int .i64 block, .int .i64 m] w (InP k w) := by
  have Hc := Lib.hid h
  clear h
  go_enter Tryz.func19, Tryz.ntmps19
  go_wp2_with (first
    | (go_at_call 43; refine Hc.out.mono ?_))
  rintro e w1 ⟨u, rfl, hE, hb⟩
  have Hi := Lib.hid (in_err ⟨#[114, 97, 100, 105, 120, 46, 83, 101, 116]⟩ k u w1 hE)
  have HB := Lib.hid hb
  clear hE hb Hc
  go_wp2_with (first | (go_at_call 40; refine Hi.out.mono ?_))
  rintro e w2 ⟨u2, rfl, hE2, hb2⟩
  have Hfin := Lib.hid (show InP k w (.returned u2) w2 from ⟨u2, rfl, hE2, HB.out.trans (hb2.mono HB.out.size)⟩)
  clear hE2 hb2 Hi HB
  go_wp2
  first | exact Hfin.out | (go_ret; exact Hfin.out) | refine bodyPost_ret (v := u2) (by simp [results, Tryz.results19, go_sem]) rfl Hfin.out
/-- A block's number. -/
theorem rGet_any (h : OwnX b gd g T w0 w) (hT : (x, foO g first n) ∈ T) (hF : Fo b first n v) (hf : first ≤ 2000) (hn : n ≤ 2000) (lun block : Nat) (h1 : lun < 4) (h2 : block < 256) :
    Calls Tryz.prog 21 #[.pointer (some ⟨x, 0, none⟩), .int .i64 lun, .int .i64 block] w (GetP (v (lun * 256 + block) : Nat) 0 w) :=
  Get_of (get1_any (h.fo hT) (by omega) (by omega) (h.reads hF) hF.rep (fun _ hi => hF.cont_len hi) lun block h1 h2)
theorem rNodes_any (h : OwnX b gd g T w0 w) (hT : (x, foO g first n) ∈ T) (hF : Fo b first n v) (hf : first ≤ 2000) (hn : n ≤ 2000) :
    Calls Tryz.prog 16 #[.pointer (some ⟨x, 0, none⟩)] w (GetP (takenO v 4 : Nat) 0 w) :=
  Nodes_any (h.fo hT) (by omega) (by omega) (h.reads hF) hF.rep
end
/-- A forest on a new book. -/
def FreshP (n : Nat) (w0 : World) (e : Ending) (w' : World) : Prop := ∃ gd g x, e = .returned (.tuple #[.pointer (some ⟨g, 0, none⟩), .pointer (some ⟨x, 0, none⟩)]) ∧ OwnX (bk1 300 100) gd g [(x, foO g 2 n)] w0 w'
theorem bk300 : (bk1 300 100).pages = 198 := (fr (D := 300) (n := 100) (by omega) (by omega) (by omega) (by omega)).pages
attribute [local irreducible] bk1 bk0
set_option maxRecDepth 100000 in
set_option maxHeartbeats 4000000 in
theorem fresh9_any (n : Nat) (h1 : 1 ≤ n) (h2 : n ≤ 190) (w0 w : World) (hb : Below w0.heap.size w0 w) : Calls Tryz.prog 14 #[.int .i64 n] w (FreshP n w0) := by
  have Hnw := Lib.hid (own_new (B := w0.heap.size) (w0 := w0) (w := w) 300 (by omega) (by omega) hb (Nat.le_refl _))
  clear hb
  go_enter Tryz.func14, Tryz.ntmps14
  go_wp2_with (first
    | (go_at_call 22; refine Hnw.out.mono ?_))
  rintro e w2 ⟨gd, rfl, hD⟩
  have Hm := Lib.hid (hD.mountNew (D := 300) (n := 100) (by omega) (by omega) (by omega) (by omega))
  clear hD Hnw
  go_wp2_with (first
    | (go_at_call 23; refine Hm.out.mono ?_))
  rintro e w3 ⟨g, rfl, hB⟩
  have hX := OwnX.start hB rfl
  have hpg := hX.pages
  rw [bk300] at hpg
  have Hn := Lib.hid (rNew_ok hpg (by omega) 2 n h1 (by omega))
  have HX := Lib.hid hX
  clear hpg hB Hm hX
  go_wp2_with (first
    | (go_at_call 24; refine Hn.out.mono ?_))
  rintro e w4 ⟨x, rfl, rfl, rfl⟩
  have Hfin := Lib.hid (show FreshP n w0 (.returned (.tuple #[.pointer (some ⟨g, 0, none⟩), .pointer (some ⟨w3.heap.size, 0, none⟩)])) (w3.alloc (foO g 2 n)) from ⟨gd, g, _, rfl, HX.out.add _⟩)
  clear Hn HX
  go_wp2
  refine bodyPost_ret (v := .tuple #[.pointer (some ⟨g, 0, none⟩), .pointer (some ⟨w3.heap.size, 0, none⟩)]) (by simp [results, Tryz.results14, go_sem]) rfl Hfin.out
theorem fo300 (n : Nat) (h : n ≤ 190) : Fo (bk1 300 100) 2 n (fun _ => 0) ∧ Co (bk1 300 100) 300 0 ∧ (bk1 300 100).txn = [] := fo_new (by omega) (by omega) (by omega)
theorem taken_one : takenO (setV (fun _ => 0) 0 5) 4 = 2 := by decide +kernel
theorem taken_two : takenO (setV (setV (fun _ => 0) 0 5) 15 6) 4 = 2 := by decide +kernel
set_option maxRecDepth 100000 in
set_option maxHeartbeats 4000000 in
theorem stands9_any (w : World) : Calls Tryz.prog 13 #[] w fun e w' => e = .returned (.bool true) ∧ Below w.heap.size w w' := by
  obtain ⟨hf0, _, ht0⟩ := fo300 9 (by omega)
  have Hfr := Lib.hid (fresh9_any 9 (by omega) (by omega) w w (Below.refl _ _))
  have Hf0 := Lib.hid hf0; have Ht0 := Lib.hid ht0
  clear hf0 ht0
  go_enter Tryz.func13, Tryz.ntmps13
  go_wp2_with (first
    | (go_at_call 14; refine Hfr.out.mono ?_))
  rintro e w1 ⟨gd, g, x, rfl, hX1⟩
  have Hs := Lib.hid (rSet_any hX1 (x := x) (by simp) Hf0.out (by omega) (by omega) (by rw [Ht0.out]; simp) 0 0 5 (by omega) (by omega) (by omega))
  clear hX1 Hfr
  go_wp2_with (first
    | (go_at_call 19; refine Hs.out.mono ?_))
  rintro e w2 ⟨u2, rfl, hor⟩
  obtain ⟨hE2, t2, hX2, hF2, hl2⟩ := hor.resolve_right (fun h => by have := h.2.1; rw [show 0 * 256 + 0 = 0 from rfl, taken_one] at this; omega)
  obtain rfl := ErrV.zero hE2
  rw [Ht0.out] at hl2
  have Hs2 := Lib.hid (rSet_any hX2 (x := x) (by simp) hF2 (by omega) (by omega) (by show t2.length ≤ 50; simp at hl2; omega) 0 15 6 (by omega) (by omega) (by omega))
  clear hor hE2 hX2 hF2 hl2 Hs
  go_wp2_with (first
    | (go_at_call 19; refine Hs2.out.mono ?_))
  rintro e w3 ⟨u3, rfl, hor⟩
  obtain ⟨hE3, t3, hX3, hF3, _⟩ := hor.resolve_right (fun h => by have := h.2.1; rw [show 0 * 256 + 0 = 0 from rfl, show 0 * 256 + 15 = 15 from rfl, taken_two] at this; omega)
  obtain rfl := ErrV.zero hE3
  have Hg := Lib.hid (rGet_any hX3 (x := x) (by simp) hF3 (by omega) (by omega) 0 15 (by omega) (by omega))
  have HX3 := Lib.hid hX3; have HF3 := Lib.hid hF3
  clear hor hE3 hX3 hF3 Hs2
  go_wp2_with (first
    | (go_at_call 21; refine Hg.out.mono ?_))
  rintro e w4 ⟨u4, rfl, hE4, hb4⟩
  obtain rfl := ErrV.zero hE4
  have e6 : (setV (setV (fun _ => 0) (0 * 256 + 0) 5) (0 * 256 + 15) 6 (0 * 256 + 15) : Nat) = 6 := rfl
  rw [e6]
  have hX4 := HX3.out.below hb4
  have hnd := rNodes_any hX4 (x := x) (by simp) HF3.out (by omega) (by omega)
  rw [show 0 * 256 + 0 = 0 from rfl, show 0 * 256 + 15 = 15 from rfl, taken_two] at hnd
  have Hn := Lib.hid hnd
  have HX4 := Lib.hid hX4
  clear hE4 hb4 Hg hX4 hnd e6 HX3 HF3
  go_wp2_with (first
    | (go_at_call 16; refine Hn.out.mono ?_))
  rintro e w5 ⟨u5, rfl, hE5, hb5⟩
  obtain rfl := ErrV.zero hE5
  have hX5 := HX4.out.below hb5
  have Hbel := Lib.hid hX5.bel
  clear hE5 hb5 Hn hX5 HX4
  go_wp2_with (first
    | (go_at_call 28; refine (num_nil _).mono ?_))
  iterate 3
    rintro e w' ⟨rfl, rfl⟩
    go_wp2_with (go_at_call 28; refine (num_nil _).mono ?_)
  rintro e w' ⟨rfl, rfl⟩
  go_wp2
  go_ret
  exact ⟨rfl, Hbel.out⟩
end Go.Proofs.YtfagnbjjffjcbaaGreatDoor
