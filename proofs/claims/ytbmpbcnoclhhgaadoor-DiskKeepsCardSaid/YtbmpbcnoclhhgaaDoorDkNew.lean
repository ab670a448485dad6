/-
  The program's disk: slices.Clone, holding, New.
-/
import Derived.Test.YtbmpbcnoclhhgaaDoorDkAt
import Derived.Lib.SliceRun
namespace Go.Proofs.YtbmpbcnoclhhgaaDoor
open Go.RowKit Sh Go.Extern.Stop Go.Stop Go.Extern

def ClonePost (n : Nat) (xs : List Value) (w : World) (e : Ending) (w' : World) : Prop := ∃ b cap, e = .returned (.slice (some ⟨b, 0, none⟩) n cap) ∧
  w'.ownsRow 0 42 64 (.slice (some ⟨b, 0, none⟩) n cap) n xs ∧ Below w.heap.size w w' ∧ w.heap.size ≤ b

set_option maxRecDepth 100000 in
theorem clone_any (b0 n c0 : Nat) (pgs : List (List Value)) (w : World) (hn : 0 < n) (hF : n ≤ 4096) (hp : Pages pgs) (hrow : w.ownsRow 0 42 64 (.slice (some ⟨b0, 0, none⟩) n c0) n pgs.flatten) :
    Calls Tryd.prog 32 #[.slice (some ⟨b0, 0, none⟩) n c0] w (ClonePost n pgs.flatten w) := by
  obtain ⟨i0, hi0, hzz⟩ := Option.map_eq_some_iff.1 infoPage
  simp only [Prod.mk.injEq] at hzz
  have HI := Lib.hid hzz
  have hfl := hrow.1
  have hb1 := (Below.refl w.heap.size w).alloc (Nat.le_refl _) (.cells #[] 42)
  have hlt : b0 < w.heap.size := (hrow.lt b0 rfl).2
  have HN := Lib.hid (fun (j : Nat) (u : Value) (hj : pgs.flatten[j]? = some u) => show (w.alloc (.cells #[] 42)).cell? ((⟨b0, 0, none⟩ : Addr).add j) = some u from by
    have hjl : j < n * 64 := by rw [← hfl]; exact (List.getElem?_eq_some_iff.1 hj).1
    rw [show (⟨b0, 0, none⟩ : Addr).add j = ⟨b0, j, none⟩ by unfold Addr.add; split <;> simp_all, hb1.cell (p := ⟨b0, j, none⟩) hlt, hrow.cellAt j hjl, hj])
  have H1 := Lib.hid (flat_one hp)
  have HL := Lib.hid hfl
  have hown : (w.alloc (.cells #[] 42)).ownsRow 0 42 64 (.slice (some ⟨w.heap.size, 0, none⟩) 0 0) 0 [] :=
    ⟨rfl, .inr ⟨w.heap.size, 0, #[], rfl, Nat.zero_le _, heap_alloc_new w _, Nat.le_refl _, by unfold maxLen; omega, rfl, rfl⟩⟩
  clear hzz hrow hfl
  obtain ⟨hq0, hq1, hq2⟩ := HI.out
  have qT : ∀ (w : World) (a : Option Addr) (n c n' c' : Nat), (binOp .eql 38 (.slice a n c) (.slice none n' c')).run Tryd.prog w = .ok (.bool a.isNone) w := fun w a n c n' c' => Lib.run_eql_slice_nil w 38 42 a n c n' c' Tryd.underlying38
  go_enter Tryd.func32, Tryd.ntmps32
  go_wp2_with (at_builtin; refine wpList_append_lies _ rfl _ _ _ rfl 0 42 i0 _ 64 64 Tryd.underlying38 hi0 hq0 hq1 hq2 rfl (by omega) (.slice (some ⟨w.heap.size, 0, none⟩) 0 0) 0 [] rfl hown ⟨b0, 0, none⟩ n c0 pgs.flatten rfl HL.out HN.out H1.out hn (by unfold maxLen; omega) (by omega) (by omega) (w.heap.size + 1) (by simp) ?_)
  intro gg cap w3 hown3 hgr3 hat3 hlt3
  have hb3 : Below w.heap.size w w3 := ⟨hgr3.os.trans hb1.os, hgr3.tape.trans hb1.tape, hgr3.output.trans hb1.output, Nat.le_trans hb1.size hgr3.size, fun k hk => (hgr3.block k (by simp; omega) (by simp [Value.ownBlock]; omega)).trans (hb1.block k hk)⟩
  have hgg : w.heap.size ≤ gg := by
    rcases hat3 with e | e
    · simp [Value.ownBlock] at e; omega
    · omega
  clear HN H1 HL HI hi0 hq0 hq1 hq2 hat3
  go_wp2
  go_ret
  exact ⟨gg, cap, rfl, hown3, hb3, hgg⟩

/-- A new disk of those firm pages. -/
def HoldPost (firm : List (List Value)) (fb : Nat) (w : World) (e : Ending) (w' : World) : Prop := ∃ g cap vn, e = .returned (.pointer (some ⟨g, 0, none⟩)) ∧
  DiskAt g (.slice (some ⟨fb, 0, none⟩) firm.length cap) vn (.slice none 0 0) firm firm [] [] (-1) false w' ∧ Below w.heap.size w w' ∧ w.heap.size ≤ g ∧ (∀ k, vn.ownBlock = some k → w.heap.size ≤ k)

set_option maxRecDepth 100000 in
theorem holding_any (fb cap : Nat) (firm : List (List Value)) (w : World) (hn : 0 < firm.length) (hF : firm.length ≤ 4096) (hp : Pages firm) (hrow : w.ownsRow 0 42 64 (.slice (some ⟨fb, 0, none⟩) firm.length cap) firm.length firm.flatten) :
    Calls Tryd.prog 24 #[.slice (some ⟨fb, 0, none⟩) firm.length cap] w (HoldPost firm fb w) := by
  have hcl := clone_any fb firm.length cap firm w hn hF hp hrow
  have hfl : fb < w.heap.size := (hrow.lt fb rfl).2
  obtain ⟨n, hN⟩ : ∃ n, firm.length = n := ⟨_, rfl⟩
  rw [hN] at hcl hrow ⊢
  go_enter Tryd.func24, Tryd.ntmps24
  go_wp2_with (go_at_call 32; refine hcl.mono ?_; rintro e w1 ⟨b, c1, rfl, hown, hb1, hge⟩)
  go_ret
  have hbl : b < w1.heap.size := (hown.lt b rfl).2
  have hb2 := hb1.alloc hb1.size (.cells #[.slice (some ⟨fb, 0, none⟩) n cap, .slice (some ⟨b, 0, none⟩) n c1, .slice none 0 0, .int .i64 (-1), .bool false] 69)
  have hr0 : w1.ownsRow 0 42 64 (.slice (some ⟨fb, 0, none⟩) n cap) n firm.flatten := hrow.kept (⟨hb1.os, hb1.tape, hb1.output, hb1.size, fun q hq _ => hb1.block q hq⟩ : w.grownBy w1 none) (.inr (by simp [Value.ownBlock]))
  have hsz := hb1.size
  refine ⟨w1.heap.size, cap, .slice (some ⟨b, 0, none⟩) n c1, rfl, ⟨?_, ?_, ?_, World.ownsRow_nil _ _ _ _, rfl, hp, hp, fun p hp => by simp at hp, ?_⟩, hb2, hb1.size, ?_⟩
  · rw [hN]; exact heap_alloc_new w1 _
  · rw [hN]; exact hr0.alloc _
  · rw [hN]; exact hown.alloc _
  · simp [Value.ownBlock]; omega
  · intro k hk; simp [Value.ownBlock] at hk; omega

/-- A new disk. -/
def PNewPost (n : Nat) (w : World) (e : Ending) (w' : World) : Prop := ∃ g vf vn, e = .returned (.tuple #[.pointer (some ⟨g, 0, none⟩), .nilIface]) ∧
  DiskAt g vf vn (.slice none 0 0) (List.replicate n zeroPage) (List.replicate n zeroPage) [] [] (-1) false w' ∧ Below w.heap.size w w' ∧ ∀ k, Foot g vf vn (.slice none 0 0) k → w.heap.size ≤ k

theorem pnew_bad (i : Int) (h : i < 1 ∨ 4096 < i) (w : World) : Calls Tryd.prog 10 #[.int .i64 i] w fun e w' => ∃ v, e = .returned (.tuple #[.pointer none, v]) ∧ ErrV w' 1 v ∧ Below w.heap.size w w' := by
  rcases h with h | h
  · go_enter Tryd.func10, Tryd.ntmps10
    go_wp2_with (go_at_call 23; have H := in_more ⟨#[100, 105, 115, 107, 46, 78, 101, 119]⟩ 1 [] (.iface 61 (.int .i64 1)) w rfl; (with_reducible refine H.mono ?_); clear H; rintro e w1 ⟨rfl, hC1, hb1⟩)
    go_ret2
    exact ⟨_, rfl, .inr ⟨by decide, _, hC1⟩, hb1⟩
  · have h2 : ¬ i < 1 := by omega
    go_enter Tryd.func10, Tryd.ntmps10
    go_wp2_with (go_at_call 23; have H := in_more ⟨#[100, 105, 115, 107, 46, 78, 101, 119]⟩ 1 [] (.iface 61 (.int .i64 1)) w rfl; (with_reducible refine H.mono ?_); clear H; rintro e w1 ⟨rfl, hC1, hb1⟩)
    go_ret2
    exact ⟨_, rfl, .inr ⟨by decide, _, hC1⟩, hb1⟩

set_option maxRecDepth 100000 in
theorem pnew_any (n : Nat) (h1 : 1 ≤ n) (h2 : n ≤ 4096) (w : World) : Calls Tryd.prog 10 #[.int .i64 n] w (PNewPost n w) := by
  have hm := make_pages n h2 w
  have e1 : ¬ ((n : Int) < 1) := by omega
  have e2 : ¬ (4096 < (n : Int)) := by omega
  obtain ⟨cs, Hcs⟩ : ∃ cs : Array Value, Hid (cs = (List.replicate n zeroPage).flatten.toArray) := ⟨_, rfl⟩
  rw [← Hcs.out] at hm
  have hb1 := (Below.refl w.heap.size w).alloc (Nat.le_refl _) (.cells cs 42)
  have hrow : (w.alloc (.cells cs 42)).ownsRow 0 42 64 (.slice (some ⟨w.heap.size, 0, none⟩) n n) n (List.replicate n zeroPage).flatten := by
    have hfl : (List.replicate n zeroPage).flatten.length = n * 64 := by rw [zero_flat, List.length_replicate]
    refine ⟨hfl, .inr ⟨w.heap.size, n, cs, rfl, by omega, heap_alloc_new w _, Nat.le_refl _, by unfold maxLen; omega, by rw [Hcs.out, List.size_toArray, hfl], ?_⟩⟩
    rw [Hcs.out, List.toList_toArray, ← hfl, List.take_length]
  have hhold := holding_any w.heap.size n (List.replicate n zeroPage) (w.alloc (.cells cs 42)) (by rw [List.length_replicate]; omega) (by rw [List.length_replicate]; omega) (zero_pages n) (by rw [List.length_replicate]; exact hrow)
  rw [List.length_replicate] at hhold
  clear hrow
  go_enter Tryd.func10, Tryd.ntmps10
  go_wp2_with (go_at_call 24; refine hhold.mono ?_; rintro e w1 ⟨g, cap, vn, rfl, hD, hb2, hg, hvn⟩)
  go_ret2
  have hs := hb1.size
  refine ⟨g, _, vn, rfl, hD, hb1.trans (hb2.mono hb1.size), ?_⟩
  intro k hk
  simp at hg hvn
  rcases hk with rfl | hk | hk | hk
  · omega
  · simp [Value.ownBlock] at hk; omega
  · have := hvn k hk; omega
  · simp [Value.ownBlock] at hk
end Go.Proofs.YtbmpbcnoclhhgaaDoor
