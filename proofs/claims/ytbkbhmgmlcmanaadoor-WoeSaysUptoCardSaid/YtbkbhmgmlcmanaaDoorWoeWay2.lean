/-
  Way.
-/
import Derived.Test.YtbkbhmgmlcmanaaDoorWoeWay
namespace Go.Proofs.YtbkbhmgmlcmanaaDoor
open Go.RowKit Go.Extern.Stop Go.Stop Go.Extern

/-- A row of texts, below block N. -/
def Texts (N : Nat) (w : World) (bp : Option Addr) (ss : List ByteArray) : Prop :=
  ss = [] ∨ ∃ b o, bp = some ⟨b, o, none⟩ ∧ b < N ∧ ∀ j s, ss[j]? = some s → w.cell? ⟨b, o + j, none⟩ = some (.string s)
theorem Texts.below {N : Nat} {w w' : World} {bp : Option Addr} {ss : List ByteArray} (h : Texts N w bp ss) (hb : Below N w w') : Texts N w' bp ss := by
  rcases h with h | ⟨b, o, h1, h2, h3⟩
  · exact .inl h
  · exact .inr ⟨b, o, h1, h2, fun j s hj => (hb.cell (p := ⟨b, o + j, none⟩) h2).trans (h3 j s hj)⟩
theorem Texts.mono {N N' : Nat} {w : World} {bp : Option Addr} {ss : List ByteArray} (h : Texts N w bp ss) (hN : N ≤ N') : Texts N' w bp ss := by
  rcases h with h | ⟨b, o, h1, h2, h3⟩
  · exact .inl h
  · exact .inr ⟨b, o, h1, by omega, h3⟩
theorem Texts.of_own {w : World} {base : Nat} {val : Value} {ss : List ByteArray} (h : w.ownsRow base 9 1 val ss.length (strs ss)) : ∃ bp cap, val = .slice bp ss.length cap ∧ Texts w.heap.size w bp ss := by
  rcases Nat.eq_zero_or_pos ss.length with h0 | hp
  · have hv := h.2
    rcases hv with ⟨rfl, _⟩ | ⟨g, cap, cur, hv, _⟩
    · exact ⟨none, 0, by rw [h0], .inl (List.length_eq_zero_iff.1 h0)⟩
    · exact ⟨_, cap, hv, .inl (List.length_eq_zero_iff.1 h0)⟩
  · obtain ⟨g, cap, rfl, _, hg⟩ := h.form hp
    refine ⟨_, cap, rfl, .inr ⟨g, 0, rfl, hg, fun j s hj => ?_⟩⟩
    have hjl : j < ss.length := (List.getElem?_eq_some_iff.1 hj).1
    rw [Nat.zero_add, h.cellAt j (by omega), strs, List.getElem?_map, hj]
    rfl

/-- The places, in a new row. -/
def WayRes (ss : List ByteArray) (w : World) (e : Ending) (w' : World) : Prop := ∃ bp cap, e = .returned (.slice bp ss.length cap) ∧ Below w.heap.size w w' ∧ Texts w'.heap.size w' bp ss

theorem askWay_any (N b1 b2 : Nat) (n : Int) (ss : List ByteArray) (v : Value) (w : World) (hL : Laid w) (hN : 0 < N) (hN2 : N ≤ b2) (hC : Chain N w n ss v) (hl : ss.length < 2147483646)
    (h1 : w.cell? ⟨b1, 0, none⟩ = some v) (ht : w.cell? ⟨b2, 0, none⟩ = some (.slice none 0 0)) (hf : w.frozen? ⟨b2, 0, none⟩ = false) :
    Calls Tryd.prog 20 #[v, .func (.func 21) #[] #[.pointer (some ⟨b1, 0, none⟩), .pointer (some ⟨b2, 0, none⟩)]] w fun e w' => e = .returned (.tuple #[]) ∧ Below N w w' ∧ ∃ M val, w'.cell? ⟨b2, 0, none⟩ = some val ∧ w'.ownsRow M 9 1 val ss.length (strs ss) := by
  have hmf : ∀ (fn : Fn) (first cap : Array Value) (w : World), (Instr.makeFunc fn first cap).run Tryd.prog w = .ok (.func fn first cap) w := fun _ _ _ _ => rfl
  have l1 := World.block_lt_of_cell? w _ h1
  have l2 := World.block_lt_of_cell? w _ ht
  have hNw : N ≤ w.heap.size := Nat.le_of_lt (Nat.lt_of_le_of_lt hN2 l2)
  go_enter_defers Tryd.func20, Tryd.ntmps20
  go_wp2_with (first
    | (go_at_call 35; refine (ends_any n (some ss) v w (hC.mono hNw) (by simp only [restLen]; omega)).mono ?_; rintro e w1 ⟨rfl, hb1⟩)
    | (go_at_call 21; refine (way1_any N b1 b2 n ss v w1 (hL.below hL.pos hb1) hN hN2 (hC.below (hb1.mono hNw)) hl ((hb1.cell l1).trans h1) ((hb1.cell l2).trans ht) ((hb1.frozen l2).trans hf)).mono ?_; rintro e w2 ⟨rfl, hb2, val, hval, hown⟩))
  refine leaves_cons (f := 34) (args := #[]) (by simp) (by simp [go_sem]) ?_
  refine (askCatch_idle _).mono ?_
  rintro e u' w'' ⟨rfl, rfl, rfl⟩
  simp [Leaves, settle, results, Tryd.results20, go_sem]
  exact ⟨(hb1.mono hNw).trans hb2, _, val, hval, hown⟩

theorem way_any (n : Int) (ss : List ByteArray) (v : Value) (w : World) (hL : Laid w) (hC : Chain w.heap.size w n ss v) (hl : ss.length < 2147483646) :
    Calls Tryd.prog 11 #[v] w (WayRes ss w) := by
  have hmf : ∀ (fn : Fn) (first cap : Array Value) (w : World), (Instr.makeFunc fn first cap).run Tryd.prog w = .ok (.func fn first cap) w := fun _ _ _ _ => rfl
  obtain ⟨tv, xv, rfl⟩ := hC.iface
  have hb1 := (Below.refl w.heap.size w).alloc (Nat.le_refl _) (.cells #[.iface tv xv] 27)
  have hb2 := hb1.alloc (by simp) (.cells #[.slice none 0 0] 23)
  have hc2 : ((w.alloc (.cells #[.iface tv xv] 27)).alloc (.cells #[.slice none 0 0] 23)).cell? ⟨w.heap.size, 0, none⟩ = some (.iface tv xv) := by rw [World.cell?_alloc_lt _ _ ⟨w.heap.size, 0, none⟩ (by simp)]; simp
  have hc3 : ((w.alloc (.cells #[.iface tv xv] 27)).alloc (.cells #[.slice none 0 0] 23)).cell? ⟨w.heap.size + 1, 0, none⟩ = some (.slice none 0 0) := by simp
  have hf3 : ((w.alloc (.cells #[.iface tv xv] 27)).alloc (.cells #[.slice none 0 0] 23)).frozen? ⟨w.heap.size + 1, 0, none⟩ = false := by simp
  go_enter Tryd.func11, Tryd.ntmps11
  go_wp2_with (go_at_call 20; refine (askWay_any w.heap.size w.heap.size (w.heap.size + 1) n ss _ _ (hL.below hL.pos hb2) hL.pos (by omega) (hC.below hb2) hl hc2 hc3 hf3).mono ?_; rintro e w1 ⟨rfl, hbw, M, val, hval, hown⟩)
  go_ret
  obtain ⟨bp, cap, rfl, hT⟩ := Texts.of_own hown
  exact ⟨bp, cap, rfl, hb2.trans hbw, hT⟩

theorem way1_nil (b1 b2 : Nat) (w : World) (h1 : w.cell? ⟨b1, 0, none⟩ = some .nilIface) :
    Calls Tryd.prog 21 #[.pointer (some ⟨b1, 0, none⟩), .pointer (some ⟨b2, 0, none⟩)] w fun e w' => e = .returned (.tuple #[]) ∧ Below w.heap.size w w' := by
  have hb1l : b1 < w.heap.size := World.block_lt_of_cell? w _ h1
  have hbW := (Below.refl w.heap.size w).alloc (Nat.le_refl _) (.cells #[.pointer none] 33)
  have h1' := (hbW.cell (p := ⟨b1, 0, none⟩) hb1l).trans h1
  go_enter Tryd.func21, Tryd.ntmps21
  go_wp2
  refine wp_loop_rounds 1 ?_
  rw [rounds_succ]
  go_wp2_with (go_at_call 14; refine (as_nil _ _).mono ?_; rintro e w1 ⟨rfl, rfl⟩)
  first | go_end0 | refine bodyPost_ret (results_none rfl _ _ _) rfl ?_
  exact ⟨rfl, hbW⟩

theorem askWay_nil (b1 b2 : Nat) (w : World) (h1 : w.cell? ⟨b1, 0, none⟩ = some .nilIface) :
    Calls Tryd.prog 20 #[.nilIface, .func (.func 21) #[] #[.pointer (some ⟨b1, 0, none⟩), .pointer (some ⟨b2, 0, none⟩)]] w fun e w' => e = .returned (.tuple #[]) ∧ Below w.heap.size w w' := by
  have hmf : ∀ (fn : Fn) (first cap : Array Value) (w : World), (Instr.makeFunc fn first cap).run Tryd.prog w = .ok (.func fn first cap) w := fun _ _ _ _ => rfl
  have l1 := World.block_lt_of_cell? w _ h1
  go_enter_defers Tryd.func20, Tryd.ntmps20
  go_wp2_with (first
    | (go_at_call 35; refine (ends_any 0 none .nilIface w rfl (by simp only [restLen]; omega)).mono ?_; rintro e w1 ⟨rfl, hb1⟩)
    | (go_at_call 21; refine (way1_nil b1 b2 w1 ((hb1.cell l1).trans h1)).mono ?_; rintro e w2 ⟨rfl, hb2⟩))
  refine leaves_cons (f := 34) (args := #[]) (by simp) (by simp [go_sem]) ?_
  refine (askCatch_idle _).mono ?_
  rintro e u' w'' ⟨rfl, rfl, rfl⟩
  simp [Leaves, settle, results, Tryd.results20, go_sem]
  exact hb1.trans (hb2.mono hb1.size)

theorem way_nil (w : World) : Calls Tryd.prog 11 #[.nilIface] w fun e w' => e = .returned (.slice none 0 0) ∧ Below w.heap.size w w' := by
  have hmf : ∀ (fn : Fn) (first cap : Array Value) (w : World), (Instr.makeFunc fn first cap).run Tryd.prog w = .ok (.func fn first cap) w := fun _ _ _ _ => rfl
  have hb1 := (Below.refl w.heap.size w).alloc (Nat.le_refl _) (.cells #[.nilIface] 27)
  have hb2 := hb1.alloc (by simp) (.cells #[.slice none 0 0] 23)
  have hc2 : ((w.alloc (.cells #[.nilIface] 27)).alloc (.cells #[.slice none 0 0] 23)).cell? ⟨w.heap.size, 0, none⟩ = some (.nilIface) := by rw [World.cell?_alloc_lt _ _ ⟨w.heap.size, 0, none⟩ (by simp)]; simp
  have hc3 : ((w.alloc (.cells #[.nilIface] 27)).alloc (.cells #[.slice none 0 0] 23)).cell? ⟨w.heap.size + 1, 0, none⟩ = some (.slice none 0 0) := by simp
  go_enter Tryd.func11, Tryd.ntmps11
  go_wp2_with (go_at_call 20; refine (askWay_nil w.heap.size (w.heap.size + 1) _ hc2).mono ?_; rintro e w1 ⟨rfl, hbw⟩; have hr := (hbw.cell (p := ⟨w.heap.size + 1, 0, none⟩) (by simp)).trans hc3)
  go_ret
  exact ⟨rfl, hb2.trans (hbw.mono hb2.size)⟩
end Go.Proofs.YtbkbhmgmlcmanaaDoor
