/-
  Feed, Left, take: what waits, and what of it.
-/
import Derived.Test.YtakejggofghblaaPdRead
set_option linter.unusedSimpArgs false
set_option linter.unusedVariables false
namespace Go.Proofs.Ytakejggofghblaa
open Go.RowKit Sh Cr Pd

/-- A reader (of type T) in block g: what waits, whether it is broken; its blocks are those of F. -/
structure RdAt (T : TypeId) (F : Nat → Prop) (g : Nat) (l : List UInt8) (k : Bool) (W : World) : Prop where
  hF : F g
  lies : ∃ v, W.heap[g]? = some (.cells #[v, .bool k] T (0, 0)) ∧ WaitAt F W v l
section
variable {T : TypeId} {F F' : Nat → Prop} {g : Nat} {l : List UInt8} {k : Bool} {W W' : World}
theorem RdAt.lt (h : RdAt T F g l k W) : g < W.heap.size := by obtain ⟨v, h1, _⟩ := h.lies; exact (Array.getElem?_eq_some_iff.1 h1).1
/-- Whatever turns no block of F leaves a reader. -/
theorem RdAt.keep {G : Nat → Prop} (h : RdAt T F g l k W) (ho : Onl G W W') (hd : ∀ j, F j → j < W.heap.size → ¬ G j) : RdAt T F g l k W' := by
  obtain ⟨v, h1, h2⟩ := h.lies
  have hg := (Array.getElem?_eq_some_iff.1 h1).1
  exact ⟨h.hF, v, (ho.block g hg (hd g h.hF hg)).trans h1, h2.keep fun j hj => ho.block j (h2.lt j hj).1 (hd j (h2.lt j hj).2 (h2.lt j hj).1)⟩
theorem RdAt.below (h : RdAt T F g l k W) (hb : Below W.heap.size W W') : RdAt T F g l k W' := h.keep (G := fun _ => False) (Onl.of_below hb) (fun _ _ _ e => e)
theorem RdAt.wider (h : RdAt T F g l k W) (hF : ∀ j, F j → F' j) : RdAt T F' g l k W := by
  obtain ⟨v, h1, h2⟩ := h.lies
  exact ⟨hF g h.hF, v, h1, h2.wider hF⟩
/-- A reader's first cell set anew. -/
theorem RdAt.setW {v v' : Value} {l' : List UInt8} (h1 : W.heap[g]? = some (.cells #[v, .bool k] T (0, 0))) (hF : F g) (hT : T ≠ 5) (h2 : WaitAt F W v' l') : RdAt T F g l' k (W.setCell ⟨g, 0, none⟩ v') := by
  refine ⟨hF, v', by simp [World.setCell, Array.getElem?_modify, h1], h2.keep fun j hj => Below.heap_setCell W ⟨g, 0, none⟩ v' j (fun e => ?_)⟩
  rcases h2 with ⟨rfl, _⟩ | ⟨b, off, cap, cur, rfl, _, hb, _⟩
  · cases hj
  · simp only [Value.ownBlock, Option.some.injEq] at hj
    have e' : g = j := e.symm
    rw [hj, ← e', h1] at hb
    injection hb with hb
    injection hb with _ hb2
    exact hT hb2
theorem set_onl (W : World) (g i : Nat) (v : Value) (hF : F g) : Onl F W (W.setCell ⟨g, i, none⟩ v) := Onl.of_grown (grown_set W g i v) (fun k e => by cases e; exact hF)
end
theorem ne36 : (36 : TypeId) ≠ 5 := by decide
theorem ne39 : (39 : TypeId) ≠ 5 := by decide
def QuietP (w : World) (e : Ending) (w' : World) : Prop := e = .returned (.tuple #[]) ∧ w = w'
/-- What Feed leaves. -/
def FeedP (F : Nat → Prop) (g : Nat) (l : List UInt8) (k : Bool) (w : World) (e : Ending) (w' : World) : Prop := e = .returned (.tuple #[]) ∧ RdAt 36 (fun j => F j ∨ j = w.heap.size) g l k w' ∧ Onl F w w'
set_option maxHeartbeats 1000000 in
theorem feed_nil (s : ByteArray) (w : World) : Calls Try.prog 15 #[.pointer none, .string s] w (QuietP w) := by
  go_enter Try.func15, Try.ntmps15
  go_wp2
  go_end0
  exact ⟨rfl, rfl⟩
def feedB (l : List UInt8) (k : Bool) (s : List UInt8) : List UInt8 := if k then l else l ++ s
set_option maxHeartbeats 1000000 in
theorem feed_any (F : Nat → Prop) (g : Nat) (l s : List UInt8) (k : Bool) (w : World) (hR : RdAt 36 F g l k w) (hsz : l.length + s.length ≤ 140737488355328) :
    Calls Try.prog 15 #[.pointer (some ⟨g, 0, none⟩), .string (strB s)] w (FeedP F g (feedB l k s) k w) := by
  have HR := Lib.hid hR
  obtain ⟨v, hv, hW⟩ := hR.lies
  obtain ⟨bp, cap, rfl, _⟩ := hW.bytes
  have c0 := cell_of_row w g 0 _ _ _ hv
  have c1 := cell_of_row w g 1 _ _ _ hv
  have HF := Lib.hid hR.hF
  clear hR
  cases k
  · obtain ⟨v', w1, hr, hW', hg⟩ := append_str hW s hsz 23
    have hgl := (Array.getElem?_eq_some_iff.1 hv).1
    have hv1 : w1.heap[g]? = some (.cells #[.slice bp l.length cap, .bool false] 36 (0, 0)) := by
      rw [hg.block g hgl (fun e => ?_)]
      · exact hv
      · rcases hW with ⟨h1, _⟩ | ⟨b, off, cap', cur, h1, _, hb, _⟩
        · rw [h1] at e; cases e
        · rw [h1] at e
          simp only [Value.ownBlock, Option.some.injEq] at e
          rw [← e, hv] at hb
          injection hb with hb
          injection hb with _ hb2
          exact ne36 hb2
    have HO := Lib.hid (Onl.of_grown (F := F) hg (fun j e => (hW.lt j e).2))
    obtain ⟨bp', cap', rfl, _⟩ := hW'.bytes
    rw [List.length_append] at hr hW'
    have d0 := cell_of_row w1 g 0 _ _ _ hv1
    have df : w1.frozen? ⟨g, 0, none⟩ = false := by simp [World.frozen?, hv1]
    have HV := Lib.hid hv1; have HW := Lib.hid hW'; have HWW := Lib.hid hW
    clear hv hv1 hW hW' hg
    go_enter Try.func15, Try.ntmps15
    go_wp2_with (at_builtin; refine Lib.wpList_append_run _ rfl _ _ _ _ rfl _ _ rfl rfl _ _ hr ?_)
    go_end0
    exact ⟨rfl, RdAt.setW (l' := l ++ s) HV.out (.inl HF.out) ne36 HW.out, HO.out.trans (set_onl _ _ _ _ HF.out)⟩
  · clear hv hW
    go_enter Try.func15, Try.ntmps15
    go_wp2
    go_end0
    exact ⟨rfl, HR.out.wider (fun _ h => .inl h), Onl.refl _ _⟩
set_option maxHeartbeats 1000000 in
theorem left_nil (w : World) : Calls Try.prog 19 #[.pointer none] w fun e w' => e = .returned (.int .i64 0) ∧ w = w' := by
  go_enter Try.func19, Try.ntmps19
  go_wp2
  go_ret
  exact ⟨rfl, rfl⟩
set_option maxHeartbeats 1000000 in
theorem left_any (F : Nat → Prop) (g : Nat) (l : List UInt8) (k : Bool) (w : World) (hR : RdAt 36 F g l k w) :
    Calls Try.prog 19 #[.pointer (some ⟨g, 0, none⟩)] w fun e w' => e = .returned (.int .i64 (l.length : Nat)) ∧ w = w' := by
  obtain ⟨v, hv, hW⟩ := hR.lies
  obtain ⟨bp, cap, rfl, _⟩ := hW.bytes
  have c0 := cell_of_row w g 0 _ _ _ hv
  clear hR hv hW
  go_enter Try.func19, Try.ntmps19
  go_wp2
  go_ret
  exact ⟨rfl, rfl⟩
/-- What take leaves. -/
def TakeP (F : Nat → Prop) (g : Nat) (l : List UInt8) (k : Bool) (w : World) (e : Ending) (w' : World) : Prop := e = .returned (.tuple #[]) ∧ RdAt 36 F g l k w' ∧ Onl F w w'
theorem set_again (w : World) (g : Nat) (T : TypeId) (v k v' : Value) (h : w.heap[g]? = some (.cells #[v, k] T (0, 0))) : (w.setCell ⟨g, 0, none⟩ v').heap[g]? = some (.cells #[v', k] T (0, 0)) := by
  simp [World.setCell, Array.getElem?_modify, h]
set_option maxHeartbeats 2000000 in
theorem take_any (F : Nat → Prop) (g : Nat) (l : List UInt8) (k : Bool) (n : Nat) (hn : n ≤ l.length) (w : World) (hR : RdAt 36 F g l k w) :
    Calls Try.prog 28 #[.pointer (some ⟨g, 0, none⟩), .int .i64 (n : Int)] w (TakeP F g (l.drop n) k w) := by
  obtain ⟨v, hv, hW⟩ := hR.lies
  obtain ⟨bp, cap, rfl, hB⟩ := hW.bytes
  have s1 := run_slice_tail (P := Try.prog) 23 5 Try.underlying23 (by kernel_rfl) bp l.length cap n hn
  obtain ⟨bq, hbq⟩ : ∃ bq, Hid (cutAt bp cap n = bq) := ⟨_, Lib.hid rfl⟩
  obtain ⟨ln, hln⟩ : ∃ ln, Hid (l.length - n = ln) := ⟨_, Lib.hid rfl⟩
  obtain ⟨cn, hcn⟩ : ∃ cn, Hid (cap - n = cn) := ⟨_, Lib.hid rfl⟩
  rw [hbq.out, hln.out, hcn.out] at s1
  have c0 := cell_of_row w g 0 _ _ _ hv
  have f0 : w.frozen? ⟨g, 0, none⟩ = false := by simp [World.frozen?, hv]
  have hv2 := set_again w g _ _ (.bool k) (.slice bq ln cn) hv
  have d0 := cell_of_row _ g 0 _ _ _ hv2
  have g0 : (w.setCell ⟨g, 0, none⟩ (.slice bq ln cn)).frozen? ⟨g, 0, none⟩ = false := by simp [World.frozen?, hv2]
  have HV := Lib.hid hv; have HV2 := Lib.hid hv2; have HF := Lib.hid hR.hF; have HW := Lib.hid hW
  have hn0 : (0 : Int) ≤ n := by omega
  by_cases hlt : ln = 0
  · have hd : l.drop n = [] := List.drop_eq_nil_of_le (by have := hln.out; omega)
    rw [hd]
    subst hlt
    clear hv hW hv2 hB hR hd
    go_enter Try.func28, Try.ntmps28
    go_wp2
    go_end0
    exact ⟨rfl, RdAt.setW HV2.out HF.out ne36 (WaitAt.nil _ _), (set_onl _ _ _ _ HF.out).trans (set_onl _ _ _ _ HF.out)⟩
  · have hb : ((ln : Int) == 0) = false := by simpa using hlt
    have hWd : WaitAt F w (.slice bq ln cn) (l.drop n) := by
      have := HW.out.drop (n := n) (.inl (by have := hln.out; omega))
      rw [hbq.out, hln.out, hcn.out] at this
      exact this
    have HWd := Lib.hid hWd
    clear hv hW hv2 hB hR hWd hlt
    go_enter Try.func28, Try.ntmps28
    go_wp2
    go_end0
    exact ⟨rfl, RdAt.setW HV.out HF.out ne36 HWd.out, set_onl _ _ _ _ HF.out⟩
end Go.Proofs.Ytakejggofghblaa
