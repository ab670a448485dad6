/-
  One reader of a law's own: its blocks lie from its own on.
-/
import Derived.Test.YtakejggofghblaaPdSame
import Derived.Test.YtakejggofghblaaPdBack
set_option linter.unusedSimpArgs false
set_option linter.unusedVariables false
namespace Go.Proofs.Ytakejggofghblaa
open Go.RowKit Sh Cr Pd

/-- A PDU by value whose bytes lie below N. -/
def PduN (N : Nat) (W : World) (p : P) (cs : Array Value) : Prop := ∃ ap ac dp dc, cs = p.cs (.slice ap p.ahs.length ac) (.slice dp p.data.length dc) ∧ Bytes N W ap p.ahs.length ac p.ahs ∧ Bytes N W dp p.data.length dc p.data
theorem PduV.n {W : World} {p : P} {cs : Array Value} (h : PduV W p cs) : PduN W.heap.size W p cs := h
theorem PduN.below {N : Nat} {W W' : World} {p : P} {cs : Array Value} (h : PduN N W p cs) (hb : Below N W W') : PduN N W' p cs := by
  obtain ⟨ap, ac, dp, dc, h1, h2, h3⟩ := h; exact ⟨ap, ac, dp, dc, h1, h2.below hb, h3.below hb⟩
theorem PduN.v {N : Nat} {W : World} {p : P} {cs : Array Value} (h : PduN N W p cs) (hN : N ≤ W.heap.size) : PduV W p cs := by
  obtain ⟨ap, ac, dp, dc, h1, h2, h3⟩ := h; exact ⟨ap, ac, dp, dc, h1, h2.mono hN, h3.mono hN⟩
theorem PduN.size {N : Nat} {W : World} {p : P} {cs : Array Value} (h : PduN N W p cs) : Hid (cs.size = 16) := by
  obtain ⟨ap, ac, dp, dc, rfl, _⟩ := h; exact Lib.hid rfl
theorem PduN.one {N : Nat} {W : World} {p : P} {cs : Array Value} (h : PduN N W p cs) : Hid (cs.all (·.oneCell') = true) := by
  obtain ⟨ap, ac, dp, dc, rfl, _⟩ := h; exact Lib.hid (P.cs_one _ _ _ _ _ _ _)
def RS (g : Nat) (l : List UInt8) (k : Bool) (W : World) : Prop := ∃ F : Nat → Prop, RdAt 36 F g l k W ∧ ∀ j, F j → g ≤ j
section
variable {g : Nat} {l : List UInt8} {k : Bool} {W W' : World}
theorem RS.lt (h : RS g l k W) : g < W.heap.size := by obtain ⟨F, h1, _⟩ := h; exact h1.lt
theorem RS.below (h : RS g l k W) (hb : Below W.heap.size W W') : RS g l k W' := by obtain ⟨F, h1, h2⟩ := h; exact ⟨F, h1.below hb, h2⟩
theorem RS.new (w : World) : RS w.heap.size [] false (w.alloc (.cells #[.slice none 0 0, .bool false] 36)) :=
  ⟨(· = w.heap.size), ⟨rfl, _, heap_alloc_new w _, WaitAt.nil _ _⟩, fun j e => by have e' : j = w.heap.size := e; omega⟩
def RsFeedP (g : Nat) (l : List UInt8) (k : Bool) (w : World) (e : Ending) (w' : World) : Prop := e = .returned (.tuple #[]) ∧ RS g l k w' ∧ Below g w w'
theorem RS.feed (h : RS g l k W) (s : List UInt8) (hsz : l.length + s.length ≤ 140737488355328) :
    Calls Try.prog 15 #[.pointer (some ⟨g, 0, none⟩), .string (strB s)] W (RsFeedP g (feedB l k s) k W) := by
  obtain ⟨F, h1, h2⟩ := h
  have hl := h1.lt
  refine (feed_any F g l s k W h1 hsz).mono fun e w' ⟨e1, e2, e3⟩ => ⟨e1, ⟨_, e2, fun j hj => by rcases hj with hj | hj; exact h2 j hj; omega⟩, e3.below (by omega) h2⟩
def RsNextP (g : Nat) (r : (P × Nat) × (List UInt8 × Bool)) (w : World) (e : Ending) (w' : World) : Prop :=
  ∃ cs, e = .returned (.tuple #[.agg cs, .int .i64 (r.1.2 : Int)]) ∧ PduO w w' r.1.1 cs ∧ RS g r.2.1 r.2.2 w' ∧ Below g w w'
theorem RS.next (h : RS g l k W) (hh d : Bool) : Calls Try.prog 16 #[.pointer (some ⟨g, 0, none⟩), .bool hh, .bool d] W (RsNextP g (nextB l k hh d) W) := by
  obtain ⟨F, h1, h2⟩ := h
  have hl := h1.lt
  refine (next_any h1).mono fun e w' ⟨cs, e1, e2, e3, e4⟩ => ⟨cs, e1, e2, ⟨F, e3, h2⟩, e4.below (by omega) h2⟩
theorem RS.left (h : RS g l k W) : Calls Try.prog 19 #[.pointer (some ⟨g, 0, none⟩)] W fun e w' => e = .returned (.int .i64 (l.length : Nat)) ∧ W = w' := by
  obtain ⟨F, h1, _⟩ := h
  exact left_any F g l k W h1
end
theorem enc_any (p : P) (hk : p.Ok) (cs : Array Value) (h d : Bool) (w : World) (hv : PduV w p cs) (ha : p.ahs.length ≤ 9223372036854775807) (hd : p.data.length ≤ 9223372036854775807) :
    Calls Try.prog 11 #[.agg cs, .bool h, .bool d] w (OwnP w (encB p h d)) := by
  obtain ⟨ap, ac, dp, dc, rfl, hA, hD⟩ := hv
  cases hm : mayB p
  · exact enc_no p hm hk ap dp ac dc h d w ha hd
  · exact enc_yes p hm hk ap dp ac dc h d w hA hD
/-- The PDU of the law's 'stands'. -/
def p0 : P := { tag := 5, data := [97, 98] }
theorem p0_may : mayB p0 = true := by decide
theorem p0_ok : p0.Ok := ⟨by decide, by decide, by decide, by decide, rfl, fun i => P.zero_ok.hw i⟩
theorem p0_len : (encB p0 true true).length = 60 := by rw [enc_length p0_may]; rfl
theorem builtR : Try.prog.built 36 [] = some #[.slice none 0 0, .bool false] := by kernel_rfl
end Go.Proofs.Ytakejggofghblaa
