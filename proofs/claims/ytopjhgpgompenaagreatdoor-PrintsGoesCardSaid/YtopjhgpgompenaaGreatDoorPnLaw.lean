/-
  New; law 08's fresh.
-/
import Derived.Test.YtopjhgpgompenaaGreatDoorPnCalls
import Derived.Test.YtopjhgpgompenaaGreatDoorPnEq
import Derived.Test.YtopjhgpgompenaaGreatDoorDkNums
import Derived.Test.YtopjhgpgompenaaGreatDoorBkOwn
set_option linter.unusedSimpArgs false
set_option linter.unusedVariables false
namespace Go.Proofs.YtopjhgpgompenaaGreatDoor
open Go.RowKit Sh Go.Maps Go.Extern.Stop Go.Stop Go.Extern

theorem num_nil08 (w : World) : Calls Tryz.prog 41 #[.nilIface] w fun e w' => e = .returned (.int .i64 0) ∧ w' = w := by
  go_enter Tryz.func41, Tryz.ntmps41
  go_wp2
  go_ret
  exact ⟨rfl, rfl⟩
section
variable {w : World}
def NewTP (g first n : Nat) (w : World) (e : Ending) (w' : World) : Prop := ∃ x, e = .returned (.tuple #[.pointer (some ⟨x, 0, none⟩), .nilIface]) ∧ w'.heap[x]? = some (tabO g first n) ∧ Below w.heap.size w w' ∧ w.heap.size ≤ x
theorem tabNew_ok {g P : Nat} (hp : Calls Tryz.prog 58 #[.pointer (some ⟨g, 0, none⟩)] w fun e w' => e = .returned (.int .i64 P) ∧ w = w') (hP : P ≤ 2048) (first n : Nat) (h1 : 1 ≤ n) (h3 : first + n ≤ P) :
    Calls Tryz.prog 40 #[.pointer (some ⟨g, 0, none⟩), .int .i64 first, .int .i64 n] w (NewTP g first n w) := by
  have Hp := Lib.hid hp
  have k1 : ¬ ((first : Int) < 0) := by omega
  have k2 : ¬ ((n : Int) < 1) := by omega
  have w1 : IntKind.i64.wrap ((P : Int) - n) = (P : Int) - n := IntWalk.i64_in _ (by omega)
  have k4 : ¬ ((P : Int) - n < first) := by omega
  have hb := (Below.refl w.heap.size w).alloc (Nat.le_refl _) (.cells #[.pointer (some ⟨g, 0, none⟩), .int .i64 first, .int .i64 n] 139)
  have hx := heap_alloc_new w (.cells #[.pointer (some ⟨g, 0, none⟩), .int .i64 first, .int .i64 n] 139)
  have Hfin := Lib.hid (show NewTP g first n w (.returned (.tuple #[.pointer (some ⟨w.heap.size, 0, none⟩), .nilIface])) (w.alloc (.cells #[.pointer (some ⟨g, 0, none⟩), .int .i64 first, .int .i64 n] 139)) from ⟨_, rfl, hx, hb, Nat.le_refl _⟩)
  clear hp hb hx
  go_enter Tryz.func40, Tryz.ntmps40
  go_wp2_with (first
    | (go_at_call 58; refine Hp.out.mono ?_; rintro e w' ⟨rfl, rfl⟩))
  refine bodyPost_ret (v := .tuple #[.pointer (some ⟨w.heap.size, 0, none⟩), .nilIface]) (by simp [results, Tryz.results40, go_sem]) rfl ?_
  exact Hfin.out
def NoTab (n : Int) (w : World) (e : Ending) (w' : World) : Prop := ∃ v, e = .returned (.tuple #[.pointer none, v]) ∧ ErrV w' n v ∧ Below w.heap.size w w'
set_option maxHeartbeats 2000000 in
theorem tabNew_bad {g P : Nat} (hp : Calls Tryz.prog 58 #[.pointer (some ⟨g, 0, none⟩)] w fun e w' => e = .returned (.int .i64 P) ∧ w = w') (hP : P ≤ 2048) (first n : Int) (hf : -9223372036854775808 ≤ first ∧ first ≤ 9223372036854775807) (hn : -9223372036854775808 ≤ n ∧ n ≤ 9223372036854775807) (hbad : first < 0 ∨ n < 1 ∨ (P : Int) - n < first) :
    Calls Tryz.prog 40 #[.pointer (some ⟨g, 0, none⟩), .int .i64 first, .int .i64 n] w (NoTab 1 w) := by
  have Hp := Lib.hid hp
  have Hi := Lib.hid (in_err ⟨#[112, 114, 105, 110, 116, 115, 46, 78, 101, 119]⟩ 1 (.iface 108 (.int .i64 1)) w (.inr ⟨by decide, [], rfl⟩))
  clear hp
  by_cases h1 : first < 0
  · clear hbad
    go_enter Tryz.func40, Tryz.ntmps40
    go_wp2_with (first | (go_at_call 49; refine Hi.out.mono ?_))
    rintro e w2 ⟨v2, rfl, hE2, hb2⟩
    have Hfin := Lib.hid (show NoTab 1 w (.returned (.tuple #[.pointer none, v2])) w2 from ⟨v2, rfl, hE2, hb2⟩)
    clear hE2 hb2 Hi
    go_wp2
    refine bodyPost_ret (v := .tuple #[.pointer none, v2]) (by simp [results, Tryz.results40, go_sem]) rfl Hfin.out
  by_cases h2 : n < 1
  · clear hbad
    go_enter Tryz.func40, Tryz.ntmps40
    go_wp2_with (first | (go_at_call 49; refine Hi.out.mono ?_))
    rintro e w2 ⟨v2, rfl, hE2, hb2⟩
    have Hfin := Lib.hid (show NoTab 1 w (.returned (.tuple #[.pointer none, v2])) w2 from ⟨v2, rfl, hE2, hb2⟩)
    clear hE2 hb2 Hi
    go_wp2
    refine bodyPost_ret (v := .tuple #[.pointer none, v2]) (by simp [results, Tryz.results40, go_sem]) rfl Hfin.out
  have w1 : IntKind.i64.wrap ((P : Int) - n) = (P : Int) - n := IntWalk.i64_in _ (by omega)
  have h4 : (P : Int) - n < first := by omega
  clear hbad
  go_enter Tryz.func40, Tryz.ntmps40
  go_wp2_with (first
    | (go_at_call 58; refine Hp.out.mono ?_; rintro e w' ⟨rfl, rfl⟩)
    | (go_at_call 49; refine Hi.out.mono ?_))
  rintro e w2 ⟨v2, rfl, hE2, hb2⟩
  have Hfin := Lib.hid (show NoTab 1 w (.returned (.tuple #[.pointer none, v2])) w2 from ⟨v2, rfl, hE2, hb2⟩)
  clear hE2 hb2 Hi
  go_wp2
  refine bodyPost_ret (v := .tuple #[.pointer none, v2]) (by simp [results, Tryz.results40, go_sem]) rfl Hfin.out
def AllP (k : Int) (w : World) (e : Ending) (w' : World) : Prop := ∃ v, e = .returned (.tuple #[.slice none 0 0, v]) ∧ ErrV w' k v ∧ Below w.heap.size w w'
theorem pall_nil (w : World) : Calls Tryz.prog 82 #[.pointer none] w (AllP 1 w) := by
  have Hfin := Lib.hid (show AllP 1 w (.returned (.tuple #[.slice none 0 0, .iface 108 (.int .i64 1)])) w from ⟨_, rfl, .inr ⟨by decide, [], rfl⟩, Below.refl _ _⟩)
  go_enter Tryz.func82, Tryz.ntmps82
  go_wp2
  first | exact Hfin.out | (go_ret; exact Hfin.out) | refine bodyPost_ret (v := .tuple #[.slice none 0 0, .iface 108 (.int .i64 1)]) (by simp [results, Tryz.results82, go_sem]) rfl Hfin.out
theorem pAll_nil (w : World) : Calls Tryz.prog 39 #[.pointer none] w (AllP 1 w) := by
  have Hc := Lib.hid (pall_nil w)
  go_enter Tryz.func39, Tryz.ntmps39
  go_wp2_with (first | (go_at_call 82; refine Hc.out.mono ?_))
  rintro e w1 ⟨v, rfl, hE, hb⟩
  have Hi := Lib.hid (in_err ⟨#[112, 114, 105, 110, 116, 115, 46, 65, 108, 108]⟩ _ v w1 hE)
  clear hE Hc
  go_wp2_with (first | (go_at_call 49; refine Hi.out.mono ?_))
  rintro e w2 ⟨v2, rfl, hE2, hb2⟩
  have Hfin := Lib.hid (show AllP 1 w (.returned (.tuple #[.slice none 0 0, v2])) w2 from ⟨v2, rfl, hE2, hb.trans (hb2.mono hb.size)⟩)
  clear hE2 hb2 Hi
  go_wp2
  first | exact Hfin.out | (go_ret; exact Hfin.out) | refine bodyPost_ret (v := .tuple #[.slice none 0 0, v2]) (by simp [results, Tryz.results39, go_sem]) rfl Hfin.out
end
def TFreshP (n : Nat) (w0 : World) (e : Ending) (w' : World) : Prop := ∃ gd g x, e = .returned (.tuple #[.pointer (some ⟨g, 0, none⟩), .pointer (some ⟨x, 0, none⟩)]) ∧ OwnX (bk1 300 100) gd g [(x, tabO g 3 n)] w0 w'
theorem bk300P : (bk1 300 100).pages = 198 := (fr (D := 300) (n := 100) (by omega) (by omega) (by omega) (by omega)).pages
theorem ta300 (n : Nat) (h : n ≤ 190) : Ta (bk1 300 100) 3 n (List.replicate n noE) ∧ Co (bk1 300 100) 300 0 ∧ (bk1 300 100).txn = [] := ta_new (by omega) (by omega) (by omega)
attribute [local irreducible] bk1 bk0
set_option maxRecDepth 100000 in
set_option maxHeartbeats 4000000 in
theorem fresh8_any (n : Nat) (h1 : 1 ≤ n) (h2 : n ≤ 190) (w0 w : World) (hb : Below w0.heap.size w0 w) : Calls Tryz.prog 43 #[.int .i64 n] w (TFreshP n w0) := by
  have Hnw := Lib.hid (own_new (B := w0.heap.size) (w0 := w0) (w := w) 300 (by omega) (by omega) hb (Nat.le_refl _))
  clear hb
  go_enter Tryz.func43, Tryz.ntmps43
  go_wp2_with (first
    | (go_at_call 21; refine Hnw.out.mono ?_))
  rintro e w2 ⟨gd, rfl, hD⟩
  have Hm := Lib.hid (hD.mountNew (D := 300) (n := 100) (by omega) (by omega) (by omega) (by omega))
  clear hD Hnw
  go_wp2_with (first
    | (go_at_call 22; refine Hm.out.mono ?_))
  rintro e w3 ⟨g, rfl, hB⟩
  have hX := OwnX.start hB rfl
  have hpg := hX.pages
  rw [bk300P] at hpg
  have Hn := Lib.hid (tabNew_ok hpg (by omega) 3 n h1 (by omega))
  have HX := Lib.hid hX
  clear hpg hB Hm hX
  go_wp2_with (first
    | (go_at_call 40; refine Hn.out.mono ?_))
  rintro e w4 ⟨x, rfl, hx, hb4, hxl⟩
  have Hfin := Lib.hid (show TFreshP n w0 (.returned (.tuple #[.pointer (some ⟨g, 0, none⟩), .pointer (some ⟨x, 0, none⟩)])) w4 from ⟨gd, g, x, rfl, HX.out.holdsP hb4 hxl hx⟩)
  clear Hn HX hx hb4 hxl
  go_wp2
  refine bodyPost_ret (v := .tuple #[.pointer (some ⟨g, 0, none⟩), .pointer (some ⟨x, 0, none⟩)]) (by simp [results, Tryz.results43, go_sem]) rfl Hfin.out
end Go.Proofs.YtopjhgpgompenaaGreatDoor
