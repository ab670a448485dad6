/-
  A PDU that came in by value, opened.
-/
import Derived.Test.YtakejggofghblaaRows
import Derived.Test.YtakejggofghblaaPdStands
import Derived.WideKeyArr2
import Derived.ProofKit
import Derived.OpenShut
import Derived.SizedLaws
import Derived.Deep.Strs
import Derived.Deep.Slices
import Derived.ChangeSame
import Derived.ChangeVars
import Derived.JoinedOf
import Derived.Carry
import Derived.ShutString
import Derived.Deep.DeepHandedRow
set_option linter.unusedSimpArgs false
set_option linter.unusedVariables false
namespace Go.Proofs.Ytakejggofghblaa
open Go.RowKit Go.ChangeShapes Go.WideShapes Go.ChangeAt Go.Deep Sh Cr Pd

theorem Try.own : ownKnob Try.prog.godebug = none := by kernel_rfl
theorem Try.laidOut : laidOutB Try.prog = true := by kernel_rfl
theorem Try.cellsByte : Try.prog.cellsOf 5 = 1 := by kernel_rfl
theorem Try.bytesByte : Try.prog.bytesOf 5 = 1 := by kernel_rfl
theorem Try.arr2 : WideMaps.ArrKey Try.prog 22 5 2 := ⟨Try.underlying22, by kernel_rfl, by kernel_rfl, by kernel_rfl⟩
theorem Try.arr7 : WideMaps.ArrKey Try.prog 26 25 7 := ⟨Try.underlying26, by kernel_rfl, by kernel_rfl, by kernel_rfl⟩
theorem Try.cellsPdu : Try.prog.cellsOf 28 = 16 := by kernel_rfl
theorem byte_in {x : Int} (h : (Lit.int .u8 x).wf = true) : ∃ c : UInt8, x = bz c := by
  have h1 : IntKind.u8.min = 0 := rfl
  have h2 : IntKind.u8.max = 255 := rfl
  simp only [Lit.wf, Bool.and_eq_true, decide_eq_true_eq] at h
  exact ⟨UInt8.ofNat x.toNat, by rw [bz_eq, UInt8.toNat_ofNat']; omega⟩
theorem wf_i64 {a : Int} (h : (Lit.int .i64 a).wf = true) : -9223372036854775808 ≤ a ∧ a ≤ 9223372036854775807 := by
  have h1 : IntKind.i64.min = -9223372036854775808 := rfl
  have h2 : IntKind.i64.max = 9223372036854775807 := rfl
  simp only [Lit.wf, Bool.and_eq_true, decide_eq_true_eq] at h
  omega
theorem wf_u64 {a : Int} (h : (Lit.int .u64 a).wf = true) : ∃ m : Nat, a = (m : Int) ∧ m < 18446744073709551616 := by
  have h1 : IntKind.u64.min = 0 := rfl
  have h2 : IntKind.u64.max = 18446744073709551615 := rfl
  simp only [Lit.wf, Bool.and_eq_true, decide_eq_true_eq] at h
  exact ⟨a.toNat, by omega, by omega⟩
theorem wf_u32 {a : Int} (h : (Lit.int .u32 a).wf = true) : ∃ m : Nat, a = (m : Int) ∧ m < 4294967296 := by
  have h1 : IntKind.u32.min = 0 := rfl
  have h2 : IntKind.u32.max = 4294967295 := rfl
  simp only [Lit.wf, Bool.and_eq_true, decide_eq_true_eq] at h
  exact ⟨a.toNat, by omega, by omega⟩
theorem mapM_each {α β : Type} {f : α → Option β} : ∀ (L : List α) (xs : List β), L.mapM f = some xs → ∀ i ∈ L, ∃ y, f i = some y
  | [], _, _ => by simp
  | i :: L, xs, h => by
    rw [List.mapM_cons] at h
    simp only [bind, Option.bind_eq_some_iff, pure, Option.some.injEq] at h
    obtain ⟨y, hy, ys, hys, _⟩ := h
    intro j hj
    rcases List.mem_cons.1 hj with rfl | hj
    · exact ⟨y, hy⟩
    · exact mapM_each L ys hys j hj
theorem open_cells {H : Type} {enc : TypeId × Value → H} {P : Program} {k e : TypeId} {n : Nat} {q : IntKind} {W : World} {base : Nat} {sp : Nat → Bool} {held : Bool} (A : WideMaps.ArrKey P k e n) (he : P.underlying e = some (.int q)) {xs : List Value} (hn : xs.length = n) {fuel : Nat} {x : DataW H × List MemPlace}
    (hf : DataW.trod enc P W base sp held fuel k xs = some x) : ∀ i, i < n → ∃ a, xs[i]? = some (.int q a) ∧ (Lit.int q a).wf = true := by
  cases fuel with
  | zero => simp [DataW.trod] at hf
  | succ m =>
    rw [DataW.trod_step] at hf
    unfold DataW.trodStep at hf
    simp only [A.hu] at hf
    rw [if_pos (by rw [A.size]; exact hn)] at hf
    simp only [Option.map_eq_some_iff] at hf
    obtain ⟨ys, hy, _⟩ := hf
    intro i hi
    obtain ⟨y, h1⟩ := mapM_each _ _ hy i (by simpa using hi)
    obtain ⟨a, ea, _, wa⟩ := DataW.trod_int he h1
    rw [A.one, Nat.mul_one] at ea
    refine ⟨a, ?_, wa⟩
    have h2 : (xs.drop i)[0]? = some (.int q a) := by
      have h3 := congrArg (fun l : List Value => l[0]?) ea
      simpa using h3
    simpa using h2
theorem open_row {H : Type} {enc : TypeId × Value → H} {P : Program} {t e : TypeId} (ht : P.underlying t = some (.slice e)) (he : P.underlying e = some (.int .u8)) (hc : P.cellsOf e = 1)
    {W : World} {base : Nat} {held : Bool} {fuel : Nat} {c : Value} {x : DataW H × List MemPlace} (hf : DataW.trod enc P W base (fun _ => true) held fuel t [c] = some x) :
    ∃ a0 cap bs, c = .slice a0 bs.length cap ∧ Bytes W.heap.size W a0 bs.length cap bs := by
  rcases open_ints ht he hc hf with ⟨hcs, _⟩ | ⟨a, len, cap, zs, hcs, _, hl, hm, hz, hx, hcell, hwz⟩
  · obtain rfl : c = .slice none 0 0 := by simpa using hcs
    exact ⟨none, 0, [], rfl, Bytes.nil _ _⟩
  · obtain rfl : c = .slice (some a) len cap := by simpa using hcs
    simp only [if_true] at hz
    have hlz : ((zs.take len).map (fun z => UInt8.ofNat z.toNat)).length = len := by rw [List.length_map, List.length_take]; omega
    refine ⟨some a, cap, (zs.take len).map (fun z => UInt8.ofNat z.toNat), by rw [hlz], ?_⟩
    rw [hlz]
    refine ⟨hlz, hl, hm, ?_⟩
    rcases Nat.eq_zero_or_pos len with h | hpos
    · exact .inl h
    right
    obtain ⟨b, off, s⟩ := a
    obtain rfl : s = none := by simpa [Addr.add] using World.cell?_spot (hcell 0 (by omega))
    have hadd : ∀ i, (⟨b, off, none⟩ : Addr).add i = ⟨b, off + i, none⟩ := fun i => by unfold Addr.add; split <;> simp_all
    refine ⟨b, off, rfl, ?_, fun i hi => ?_⟩
    · have := World.block_lt_of_cell? W _ (hcell 0 (by omega))
      simpa [hadd] using this
    · have hi' : i < zs.length := by omega
      rw [← hadd, hcell i hi']
      have hz1 : zs.getD i 0 ∈ zs := by
        rw [List.getD_eq_getElem?_getD, List.getElem?_eq_getElem hi']; exact List.getElem_mem hi'
      have hw := hwz _ hz1
      have h1 : IntKind.u8.min = 0 := rfl
      have h2 : IntKind.u8.max = 255 := rfl
      simp only [Lit.wf, Bool.and_eq_true, decide_eq_true_eq] at hw
      have e : at8 ((zs.take len).map (fun z => UInt8.ofNat z.toNat)) i = UInt8.ofNat (zs.getD i 0).toNat := by
        simp only [at8, List.getD_eq_getElem?_getD, List.getElem?_map, List.getElem?_take]
        rw [if_pos hi, List.getElem?_eq_getElem hi']; rfl
      rw [e, cu8, bz_eq, UInt8.toNat_ofNat']
      congr 3
      omega
section
variable {H : Type} {enc : TypeId × Value → H} {W : World}
set_option maxRecDepth 100000 in
set_option maxHeartbeats 2000000 in
theorem pdu_of_trod {base fuel : Nat} {held : Bool} {cs : List Value} {x : DataW H × List MemPlace} (hf : DataW.trod enc Try.prog W base (fun _ => true) held fuel 28 cs = some x) :
    ∃ p : P, p.Ok ∧ PduV W p cs.toArray := by
  obtain ⟨xs, n, _, _, hl, hlen, hg⟩ := DataW.trod_struct Try.underlying28 hf
  rw [Try.cellsPdu] at hl
  match cs, hl, xs, hlen with
  | [c0, c1, c2, c3, c4, c5, c6, c7, c8, c9, c10, c11, c12, c13, c14, c15], _, [y0, y1, y2, y3, y4, y5, y6, y7, y8], _ =>
    obtain ⟨z0, e0, _, w0⟩ := DataW.trod_int Try.underlying3 (hg 0 _ rfl)
    obtain ⟨z1, e1, _⟩ := DataW.trod_bool Try.underlying4 (hg 1 _ rfl)
    obtain ⟨z2, e2, _, w2⟩ := DataW.trod_int Try.underlying5 (hg 2 _ rfl)
    have k3 := open_cells Try.arr2 Try.underlying5 (xs := [c3, c4]) rfl (hg 3 _ rfl)
    obtain ⟨z3, e3, w3⟩ := k3 0 (by omega)
    obtain ⟨z4, e4, w4⟩ := k3 1 (by omega)
    obtain ⟨ap, ac, A, e5, hA⟩ := open_row (c := c5) Try.underlying23 Try.underlying5 Try.cellsByte (hg 4 _ rfl)
    obtain ⟨z6, e6, _, w6⟩ := DataW.trod_int Try.underlying24 (hg 5 _ rfl)
    obtain ⟨z7, e7, _, w7⟩ := DataW.trod_int Try.underlying25 (hg 6 _ rfl)
    have k7 := open_cells Try.arr7 Try.underlying25 (xs := [c8, c9, c10, c11, c12, c13, c14]) rfl (hg 7 _ rfl)
    obtain ⟨z8, e8, w8⟩ := k7 0 (by omega)
    obtain ⟨z9, e9, w9⟩ := k7 1 (by omega)
    obtain ⟨z10, e10, w10⟩ := k7 2 (by omega)
    obtain ⟨z11, e11, w11⟩ := k7 3 (by omega)
    obtain ⟨z12, e12, w12⟩ := k7 4 (by omega)
    obtain ⟨z13, e13, w13⟩ := k7 5 (by omega)
    obtain ⟨z14, e14, w14⟩ := k7 6 (by omega)
    obtain ⟨dp, dc, D, e15, hD⟩ := open_row (c := c15) Try.underlying23 Try.underlying5 Try.cellsByte (hg 8 _ rfl)
    have f0 : [c0] = [Value.int .i64 z0] := e0
    have f1 : [c1] = [Value.bool z1] := e1
    have f2 : [c2] = [Value.int .u8 z2] := e2
    have f6 : [c6] = [Value.int .u64 z6] := e6
    have f7 : [c7] = [Value.int .u32 z7] := e7
    obtain ⟨b2, rfl⟩ := byte_in w2
    obtain ⟨b3, rfl⟩ := byte_in w3
    obtain ⟨b4, rfl⟩ := byte_in w4
    obtain ⟨m6, rfl, b6⟩ := wf_u64 w6
    obtain ⟨m7, rfl, b7⟩ := wf_u32 w7
    obtain ⟨m8, rfl, b8⟩ := wf_u32 w8
    obtain ⟨m9, rfl, b9⟩ := wf_u32 w9
    obtain ⟨m10, rfl, b10⟩ := wf_u32 w10
    obtain ⟨m11, rfl, b11⟩ := wf_u32 w11
    obtain ⟨m12, rfl, b12⟩ := wf_u32 w12
    obtain ⟨m13, rfl, b13⟩ := wf_u32 w13
    obtain ⟨m14, rfl, b14⟩ := wf_u32 w14
    refine ⟨{ op := z0, imm := z1, fl := b2, s0 := b3, s1 := b4, ahs := A, lun := m6, tag := m7, ws := [m8, m9, m10, m11, m12, m13, m14], data := D },
      ⟨(wf_i64 w0).1, (wf_i64 w0).2, b6, b7, rfl, fun i => ?_⟩, ap, ac, dp, dc, ?_, hA, hD⟩
    · rcases (by omega : i = 0 ∨ i = 1 ∨ i = 2 ∨ i = 3 ∨ i = 4 ∨ i = 5 ∨ i = 6 ∨ 7 ≤ i) with rfl | rfl | rfl | rfl | rfl | rfl | rfl | h
      · exact b8
      · exact b9
      · exact b10
      · exact b11
      · exact b12
      · exact b13
      · exact b14
      · unfold P.w
        rw [List.getD_eq_getElem?_getD, List.getElem?_eq_none (by simpa using h)]; decide
    · obtain rfl := (List.cons.inj f0).1
      obtain rfl := (List.cons.inj f1).1
      obtain rfl := (List.cons.inj f2).1
      obtain rfl := (List.cons.inj f6).1
      obtain rfl := (List.cons.inj f7).1
      obtain rfl : c3 = _ := Option.some.inj e3
      obtain rfl : c4 = _ := Option.some.inj e4
      obtain rfl : c8 = _ := Option.some.inj e8
      obtain rfl : c9 = _ := Option.some.inj e9
      obtain rfl : c10 = _ := Option.some.inj e10
      obtain rfl : c11 = _ := Option.some.inj e11
      obtain rfl : c12 = _ := Option.some.inj e12
      obtain rfl : c13 = _ := Option.some.inj e13
      obtain rfl : c14 = _ := Option.some.inj e14
      subst e5 e15
      rfl
theorem open_pdu {base : Nat} {held : Bool} {v : Value} {d : DataW H} {ps : List MemPlace} (h : DataW.Trod enc Try.prog W base (fun _ => true) held 28 v d ps) :
    ∃ p cs, v = .agg cs ∧ p.Ok ∧ PduV W p cs := by
  obtain ⟨fuel, hf⟩ := h
  obtain ⟨p, hk, hv⟩ := pdu_of_trod hf
  have hz := hv.size.out
  cases v with
  | agg cs => exact ⟨p, cs, rfl, hk, by simpa [Value.cells] using hv⟩
  | _ => simp [Value.cells] at hz
end
theorem open_str {H : Type} {enc : TypeId × Value → H} {W : World} {base b : Nat} {held : Bool} {r : Reach} {v : Value} {d : DataW H} {ps : List MemPlace} (hk : Value.okWide Try.prog W r b 9 v) (h : DataW.Trod enc Try.prog W base (fun _ => true) held 9 v d ps) :
    ∃ l, v = .string (strB l) ∧ d = .lit (.string l) := by
  obtain ⟨s, rfl⟩ := okWide_string Try.underlying9 hk
  obtain ⟨fuel, hf⟩ := h
  obtain ⟨s', hcs, hx, _⟩ := DataW.trod_string Try.underlying9 hf
  obtain rfl : s = s' := by simpa [Value.cells] using hcs
  exact ⟨s.data.toList, rfl, congrArg Prod.fst hx⟩
/-- A string as its bytes. -/
theorem str_of (s : ByteArray) : s = strB s.data.toList := by
  cases s; rfl
end Go.Proofs.Ytakejggofghblaa
