/-
  a map of named places; bytes laid over others.
-/
import Derived.Test.YtehhhbehclpkbaaCdSparesM
import Derived.Test.YtehhhbehclpkbaaCdStands
import Derived.Maps.Own
import Derived.Maps.OwnSet
import Derived.MapKept
set_option linter.unusedSimpArgs false
set_option linter.unusedVariables false
namespace Go.Proofs.Ytehhhbehclpkbaa
open Go.RowKit Sh Cd

def namedL : List (Nat × List Nat) := [(0, [0]), (18, [0, 1, 2, 3, 4]), (37, [0]), (158, [0, 1, 10, 11, 12, 13]), (160, [0, 2, 6, 7, 8, 9]), (94, [0, 1, 7, 8]), (95, [0, 1, 2, 5, 6, 7, 8]), (66, [0, 7, 8])]
theorem spares_plain {B C : List UInt8} (hB : B.length = 16) (hC : C.length = 16) (k : Nat) (ns : List Nat) (hk : b8 B 0 = k) (hm : (k, ns) ∈ namedL) (h : ∀ i ∈ ns, at8 B i = at8 C i) : rowC B = rowC C ∧ decT B = decT C := by
  simp only [namedL, List.mem_cons, List.not_mem_nil, or_false, Prod.mk.injEq] at hm
  rcases hm with ⟨rfl, rfl⟩ | ⟨rfl, rfl⟩ | ⟨rfl, rfl⟩ | ⟨rfl, rfl⟩ | ⟨rfl, rfl⟩ | ⟨rfl, rfl⟩ | ⟨rfl, rfl⟩ | ⟨rfl, rfl⟩
  · exact same_0 hB hC hk (h 0 (by simp))
  · exact same_18 hB hC hk (h 0 (by simp)) (h 1 (by simp)) (h 2 (by simp)) (h 3 (by simp)) (h 4 (by simp))
  · exact same_37 hB hC hk (h 0 (by simp))
  · exact same_158 hB hC hk (h 0 (by simp)) (h 1 (by simp)) (h 10 (by simp)) (h 11 (by simp)) (h 12 (by simp)) (h 13 (by simp))
  · exact same_160 hB hC hk (h 0 (by simp)) (h 2 (by simp)) (h 6 (by simp)) (h 7 (by simp)) (h 8 (by simp)) (h 9 (by simp))
  · exact same_94 hB hC hk (h 0 (by simp)) (h 1 (by simp)) (h 7 (by simp)) (h 8 (by simp))
  · exact same_95 hB hC hk (h 0 (by simp)) (h 1 (by simp)) (h 2 (by simp)) (h 5 (by simp)) (h 6 (by simp)) (h 7 (by simp)) (h 8 (by simp))
  · exact same_66 hB hC hk (h 0 (by simp)) (h 7 (by simp)) (h 8 (by simp))
/-- The bytes of some places laid over others. -/
def overN (B S : List UInt8) (l : List Nat) : List UInt8 := l.foldl (fun c i => c.set i (at8 B i)) S
theorem overN_len (B : List UInt8) : ∀ (l : List Nat) (S : List UInt8), (overN B S l).length = S.length
  | [], _ => rfl
  | i :: l, S => by rw [overN, List.foldl_cons]; exact (overN_len B l _).trans (by simp)
theorem overN_snoc (B S : List UInt8) (l : List Nat) (i : Nat) : overN B S (l ++ [i]) = (overN B S l).set i (at8 B i) := by simp [overN]
theorem overN_keep (B : List UInt8) (i : Nat) : ∀ (l : List Nat) (S : List UInt8), i < S.length → at8 S i = at8 B i → at8 (overN B S l) i = at8 B i
  | [], _, _, h => h
  | j :: l, S, hi, h => by
    rw [overN, List.foldl_cons]
    refine overN_keep B i l _ (by simpa using hi) ?_
    by_cases e : j = i
    · subst e; simp [at8, List.getD_eq_getElem?_getD, hi]
    · simp only [at8, List.getD_eq_getElem?_getD, List.getElem?_set_ne e] at h ⊢
      exact h
theorem overN_at (B : List UInt8) (i : Nat) : ∀ (l : List Nat) (S : List UInt8), i < S.length → i ∈ l → at8 (overN B S l) i = at8 B i
  | [], _, _, h => by cases h
  | j :: l, S, hi, h => by
    rw [overN, List.foldl_cons]
    by_cases e : j = i
    · subst e
      exact overN_keep B j l _ (by simpa using hi) (by simp [at8, List.getD_eq_getElem?_getD, hi])
    · exact overN_at B i l _ (by simpa using hi) (by rcases List.mem_cons.1 h with h | h; exact absurd h.symm e; exact h)
/-- The map of named places: each key has its slice, whose cells lie in a block of their own. -/
def MapOk (w : World) (mb : Nat) (L : List (Nat × Nat × List Nat)) : Prop :=
  ∃ es clock, w.heap[mb]? = some (.map es clock) ∧ es.toList.map (fun e => (e.key, e.val)) = L.map (fun p => (Value.int .u8 (p.1 : Nat), Value.slice (some ⟨p.2.1, 0, none⟩) p.2.2.length p.2.2.length)) ∧
    ∀ p ∈ L, p.1 < 256 ∧ p.2.1 ≠ mb ∧ w.heap[p.2.1]? = some (.cells (p.2.2.map fun n => Value.int .i64 (n : Nat)).toArray 3 (0, 0))
theorem MapOk.nil (w : World) : MapOk (w.alloc (.map #[] 0)) w.heap.size [] := ⟨#[], 0, heap_alloc_new _ _, rfl, fun p hp => by cases hp⟩
theorem MapOk.alloc {w : World} {mb : Nat} {L : List (Nat × Nat × List Nat)} (h : MapOk w mb L) (o : Obj) : MapOk (w.alloc o) mb L := by
  obtain ⟨es, clock, h1, h2, h3⟩ := h
  refine ⟨es, clock, by rw [Below.heap_alloc _ _ _ (Array.getElem?_eq_some_iff.1 h1).1]; exact h1, h2, fun p hp => ⟨(h3 p hp).1, (h3 p hp).2.1, ?_⟩⟩
  rw [Below.heap_alloc _ _ _ (Array.getElem?_eq_some_iff.1 (h3 p hp).2.2).1]
  exact (h3 p hp).2.2
open Go.Maps
theorem keyed8 : Keyed Try.prog 5 := int_keyed Try.underlying5
theorem key8 {k : Nat} (h : k < 256) : keyOf Try.prog 5 (.int .u8 (k : Nat)) = some (.int .u8 (k : Nat)) := keyOf_int_mk Try.underlying5 (by
  have h1 : IntKind.u8.min = 0 := rfl
  have h2 : IntKind.u8.max = 255 := rfl
  simp only [Go.Lit.wf, Bool.and_eq_true, decide_eq_true_eq]; omega)
theorem MapOk.keys {w : World} {mb : Nat} {L : List (Nat × Nat × List Nat)} {es : Array MapEntry} (h2 : es.toList.map (fun e => (e.key, e.val)) = L.map (fun p => (Value.int .u8 (p.1 : Nat), Value.slice (some ⟨p.2.1, 0, none⟩) p.2.2.length p.2.2.length)))
    (h3 : ∀ p ∈ L, p.1 < 256) : ∀ e ∈ es.toList, ∃ p ∈ L, e.key = .int .u8 (p.1 : Nat) ∧ e.val = Value.slice (some ⟨p.2.1, 0, none⟩) p.2.2.length p.2.2.length ∧ p.1 < 256 := fun e he => by
  have hm : (e.key, e.val) ∈ L.map (fun p => (Value.int .u8 (p.1 : Nat), Value.slice (some ⟨p.2.1, 0, none⟩) p.2.2.length p.2.2.length)) := by rw [← h2]; exact List.mem_map.2 ⟨e, he, rfl⟩
  obtain ⟨p, hp, hq⟩ := List.mem_map.1 hm
  obtain ⟨e1, e2⟩ := Prod.mk.inj hq
  exact ⟨p, hp, e1.symm, e2.symm, h3 p hp⟩
theorem MapOk.ins {w : World} {mb k q : Nat} {ns : List Nat} {L : List (Nat × Nat × List Nat)} (h : MapOk w mb L) (hk : k < 256) (hf : ∀ p ∈ L, p.1 ≠ k) (hq : q ≠ mb) (hc : w.heap[q]? = some (.cells (ns.map fun n => Value.int .i64 (n : Nat)).toArray 3 (0, 0))) :
    ∃ w', (Instr.mapUpdate 39 (.map (some mb)) (.int .u8 (k : Nat)) (.slice (some ⟨q, 0, none⟩) ns.length ns.length)).run Try.prog w = .ok () w' ∧ MapOk w' mb (L ++ [(k, q, ns)]) ∧ w.grownBy w' (some mb) := by
  obtain ⟨es, clock, hb, h2, h3⟩ := h
  have hks := MapOk.keys (w := w) (mb := mb) h2 (fun p hp => (h3 p hp).1)
  rcases keyed8.find w (key8 hk) es.toList (fun e he => by obtain ⟨p, hp, e1, _, hl⟩ := hks e he; exact ⟨_, by rw [e1]; exact key8 hl⟩) with ⟨h1, _⟩ | ⟨j, e0, h1, hj, he0⟩
  · refine ⟨{ w with heap := w.heap.setIfInBounds mb (.map (es.push ⟨.int .u8 (k : Nat), .slice (some ⟨q, 0, none⟩) ns.length ns.length, clock⟩) (clock + 1)) }, by simp [Instr.mapUpdate, run_underlying Try.underlying39, MapKept.run_getObj_map hb, keyed8.check w false (key8 hk), h1, MapKept.run_setObj_map _ hb, Result.andThen], ⟨_, _, (MapKept.heap_set hb).1, by simp [h2], fun p hp => ?_⟩, ⟨rfl, rfl, rfl, by simp, fun i _ hi => (MapKept.heap_set hb).2 i (fun e => hi (by rw [e]))⟩⟩
    rcases List.mem_append.1 hp with hp | hp
    · exact ⟨(h3 p hp).1, (h3 p hp).2.1, ((MapKept.heap_set hb).2 _ (h3 p hp).2.1).trans (h3 p hp).2.2⟩
    · obtain rfl : p = (k, q, ns) := by simpa using hp
      exact ⟨hk, hq, ((MapKept.heap_set hb).2 _ hq).trans hc⟩
  · obtain ⟨p, hp, e1, _, _⟩ := hks e0 (List.mem_of_getElem? hj)
    rw [e1] at he0
    exact absurd (by simp only [Value.int.injEq, true_and] at he0; omega) (hf p hp)
theorem MapOk.look {w : World} {mb k : Nat} {L : List (Nat × Nat × List Nat)} (h : MapOk w mb L) (hk : k < 256) :
    (∃ q ns, (k, q, ns) ∈ L ∧ (Instr.lookup 39 (.map (some mb)) (.int .u8 (k : Nat)) true).run Try.prog w = .ok (.tuple #[.slice (some ⟨q, 0, none⟩) ns.length ns.length, .bool true]) w ∧ w.heap[q]? = some (.cells (ns.map fun n => Value.int .i64 (n : Nat)).toArray 3 (0, 0))) ∨
    (Instr.lookup 39 (.map (some mb)) (.int .u8 (k : Nat)) true).run Try.prog w = .ok (.tuple #[.slice none 0 0, .bool false]) w := by
  obtain ⟨es, clock, hb, h2, h3⟩ := h
  have hks := MapOk.keys (w := w) (mb := mb) h2 (fun p hp => (h3 p hp).1)
  have hz : (zeroValue 38).run Try.prog w = .ok (.slice none 0 0) w := by kernel_rfl
  rcases keyed8.find w (key8 hk) es.toList (fun e he => by obtain ⟨p, hp, e1, _, hl⟩ := hks e he; exact ⟨_, by rw [e1]; exact key8 hl⟩) with ⟨h1, _⟩ | ⟨j, e0, h1, hj, he0⟩
  · right
    simp [Instr.lookup, run_underlying Try.underlying39, MapKept.run_getObj_map hb, keyed8.check w _ (key8 hk), h1, hz, Result.andThen]
  · left
    obtain ⟨p, hp, e1, e2, _⟩ := hks e0 (List.mem_of_getElem? hj)
    rw [e1] at he0
    have hpk : p.1 = k := by simp only [Value.int.injEq, true_and] at he0; omega
    refine ⟨p.2.1, p.2.2, by rw [← hpk]; exact hp, ?_, (h3 p hp).2.2⟩
    simp [Instr.lookup, run_underlying Try.underlying39, MapKept.run_getObj_map hb, keyed8.check w _ (key8 hk), h1, e2, Result.andThen]
end Go.Proofs.Ytehhhbehclpkbaa
