/-
  'ShaParts': whatever byte slices are written one behind the other, behind each the digest is the reference's of all of them, and they read afterwards as before.
-/
import Derived.Test.YtcnjffckjcoafaaRows
import Derived.Test.YtcnjffckjcoafaaShaParts
import Derived.Test.YtcnjffckjcoafaaShaOpen
import Derived.Carry
import Derived.Deep.Matrix
namespace Go.Proofs.Ytcnjffckjcoafaa
open Go.ChangeShapes Go.WideShapes Go.ChangeAt Go.RowKit Go.Deep Sh

theorem Try.cellsBytes : Try.prog.cellsOf 22 = 1 := by kernel_rfl

theorem weights_in {H : Type} {P : Program} {e : TypeId} : ∀ {l : List (DataW H)} {d : DataW H}, d ∈ l → ∀ n ∈ d.weights P e, n ∈ DataW.weightsAll P e l
  | d' :: r, d, hd, n, hn => by
    simp only [DataW.weightsAll, List.mem_append]
    rcases List.mem_cons.1 hd with rfl | h
    · exact Or.inl hn
    · exact Or.inr (weights_in h n hn)
theorem sized_piece {H : Type} {P : Program} {ts : List TypeId} {ds : List (DataW H)} (h : (DataW.weightsEach P ts ds).all (· ≤ reachBytes) = true) {j : Nat} {t e q : TypeId} {elems spare e' sp' : List (DataW H)}
    (ht : ts[j]? = some t) (hd : ds[j]? = some (.slice elems spare)) (hu : P.underlying t = some (.slice e)) (hu2 : P.underlying e = some (.slice q)) (hx : DataW.slice e' sp' ∈ elems) : (e'.length + sp'.length) * P.bytesOf q ≤ reachBytes := by
  refine of_decide_eq_true (List.all_eq_true.1 h _ (DataW.weights_mem_each ht hd _ ?_))
  simp only [DataW.weights, hu, List.mem_cons, List.mem_append]
  exact Or.inr (Or.inl (weights_in hx _ (by simp [DataW.weights, hu2])))

theorem open_pieces {H : Type} {enc : TypeId × Value → H} {P : Program} {t e q : TypeId} (ht : P.underlying t = some (.slice e)) (he : P.underlying e = some (.slice q)) (hq : P.underlying q = some (.int .u8)) (ce : P.cellsOf e = 1) (cq : P.cellsOf q = 1) (hb : P.bytesOf q = 1)
    {W : World} {a0 : Option Addr} {len cap : Nat} {d0 : DataW H} {p : List MemPlace} (h0 : DataW.Trod enc P W 0 (fun _ => true) true t (.slice a0 len cap) d0 p)
    {ts : List TypeId} {ds : List (DataW H)} (hsz : (DataW.weightsEach P ts ds).all (· ≤ reachBytes) = true) (j : Nat) (htj : ts[j]? = some t) (hdj : ds[j]? = some d0) :
    ∃ (A : Nat → Option Addr) (L C : Nat → Nat) (B : Nat → List UInt8), Pieces W.heap.size W a0 len A L C B ∧ len ≤ 9223372036854775807 := by
  obtain ⟨fuel, hf⟩ := h0
  rcases open_int_rows ht he hq ce cq hf with ⟨hcs, _⟩ | ⟨a, len', cap', A, L, C, Z, hcs, _, hl, hm, hx, hrow⟩
  · simp [Value.cells] at hcs
    obtain ⟨rfl, rfl, rfl⟩ := hcs
    exact ⟨fun _ => none, fun _ => 0, fun _ => 0, fun _ => [], .inl rfl, by omega⟩
  · simp [Value.cells] at hcs
    obtain ⟨rfl, rfl, rfl⟩ := hcs
    simp only [Prod.mk.injEq] at hx
    obtain ⟨rfl, _⟩ := hx
    unfold maxLen at hm
    refine ⟨A, L, C, fun r => ((Z r).take (L r)).map (fun z => UInt8.ofNat z.toNat), ?_, by omega⟩
    rcases Nat.eq_zero_or_pos len with h | hpos
    · exact .inl h
    right
    obtain ⟨b, off, s⟩ := a
    obtain rfl : s = none := by simpa [Addr.add] using World.cell?_spot (hrow 0 (by omega)).1
    have hadd : ∀ b off i, (⟨b, off, none⟩ : Addr).add i = ⟨b, off + i, none⟩ := fun b off i => by unfold Addr.add; split <;> simp_all
    refine ⟨b, off, rfl, ?_, fun r hr => ?_⟩
    · have := World.block_lt_of_cell? W _ (hrow 0 (by omega)).1
      simpa [hadd] using this
    · obtain ⟨h1, h2, h3, h4, h5, h6, h7⟩ := hrow r (by omega)
      rw [hadd] at h1
      refine ⟨h1, ⟨by rw [List.length_map, List.length_take]; omega, h2, h3, ?_⟩, ?_⟩
      · cases hA : A r with
        | none => left; have := h6 hA; omega
        | some a' =>
          rcases Nat.eq_zero_or_pos (L r) with h | hp
          · exact .inl h
          right
          obtain ⟨b', o', s'⟩ := a'
          have hc := (h7 _ hA).2
          obtain rfl : s' = none := by simpa [Addr.add] using World.cell?_spot (hc 0 (by omega))
          refine ⟨b', o', rfl, ?_, fun i hi => ?_⟩
          · have := World.block_lt_of_cell? W _ (hc 0 (by omega))
            simpa [hadd] using this
          · have hi' : i < (Z r).length := by omega
            rw [← hadd, hc i (by omega)]
            have hz1 : (Z r).getD i 0 ∈ Z r := by
              rw [List.getD_eq_getElem?_getD, List.getElem?_eq_getElem hi']; exact List.getElem_mem hi'
            have hw := h5 _ hz1
            have g1 : IntKind.u8.min = 0 := rfl
            have g2 : IntKind.u8.max = 255 := rfl
            simp only [Lit.wf, Bool.and_eq_true, decide_eq_true_eq] at hw
            have e : at8 (((Z r).take (L r)).map (fun z => UInt8.ofNat z.toNat)) i = UInt8.ofNat ((Z r).getD i 0).toNat := by
              simp only [at8, List.getD_eq_getElem?_getD, List.getElem?_map, List.getElem?_take]
              rw [if_pos hi, List.getElem?_eq_getElem hi']; rfl
            rw [e, cu8, bz_eq, UInt8.toNat_ofNat']
            congr 3
            omega
      · cases hA : A r with
        | none => have := h6 hA; omega
        | some a' =>
          have hin := sized_piece hsz htj hdj ht he (e' := lits .u8 ((Z r).take (L r))) (sp' := lits .u8 ((Z r).drop (L r))) (List.mem_map.2 ⟨r, List.mem_range.2 hr, by simp [intRow, hA]⟩)
          rw [hb] at hin
          simp only [lits, List.length_map, List.length_take, List.length_drop, reachBytes] at hin
          omega

set_option maxRecDepth 100000 in
theorem shaParts_lifted (os : Os) (started : os.Started) (H : Type) (enc : TypeId × Value → H) :
    ReturnsInHanded {} Try.checked os 4 .any (Rows.shaPartsSpec.pre6 enc Try.prog Try.f4 Rows.shaPartsRow.domain false) (Rows.shaPartsSpec.post enc Try.prog Try.f4 false true false false) := by
  refine returnsInHanded_of_change_sized (C := Try.checked) Try.own started (by kernel_rfl) Try.func4
    (ChangeSpec.witness6 (enc := enc) (C := Try.checked) false ⟨#[], #[.slice none 0 0], []⟩ 8 (by kernel_rfl) (by kernel_rfl) (by kernel_rfl) (by kernel_rfl)) ?_
  intro W base args ds gs before hval0 hW hcnd hsz0 _
  have hval : ∀ (j : Nat) t v, Try.f4.params[j]? = some t → args[j]? = some v → Value.okWide Try.prog W .any base t v := hval0
  have hsz : (DataW.weightsEach Try.prog (Try.f4.params.toList ++ Rows.shaPartsSpec.plain.varTypes Try.prog) (ds ++ gs)).all (· ≤ reachBytes) = true := hsz0
  have hW' := hW
  obtain ⟨p, q, hA0, hV, rfl, hfz, hnd⟩ := hW
  have hA : DataW.TrodAll enc Try.prog W 0 (fun _ => true) true Try.f4.params.toList args.toList ds p := hA0
  rw [Try.params4] at hA hval hsz
  obtain ⟨v0, vs0, d0, ds0, p0, q0, hargs, rfl, rfl, h0, r0⟩ := trodAll_cons hA
  obtain ⟨rfl, rfl, rfl⟩ := trodAll_nil r0
  obtain rfl : args = #[v0] := by cases args; simp_all
  obtain ⟨rfl, rfl⟩ := trodVars_none hV
  obtain ⟨a0, len0, cap0, rfl⟩ := okWide_slice Try.underlying27 (hval 0 27 v0 rfl rfl)
  have k0 := h0
  have lt0 : ∀ x ∈ p0, x.block < W.heap.size := by obtain ⟨m, hm⟩ := k0; exact DataW.trod_lt m _ _ _ hm
  obtain ⟨A, L, C, B, hP, hlen⟩ := open_pieces Try.underlying27 Try.underlying22 Try.underlying5 Try.cellsBytes Try.cellsByte Try.bytesByte h0 hsz 0 rfl rfl
  clear hA0 hval0 hsz0
  refine (shaParts_any a0 len0 cap0 A L C B W hP hlen).mono fun e W' ⟨he, bel⟩ => ?_
  subst he
  exact ⟨_, rfl, _, _, _, [], _, [], hW', trodAll_mk1 (shut_bool Try.underlying4 _), (trodAll_cons_mk (Below.trod Try.laidOut (by kernel_rfl) (of_decide_eq_true (by kernel_rfl)) k0 bel lt0) trodAll_mk0), rfl, bel.frame _, fun h => by cases h⟩

theorem shaParts_holds : Rows.ShaPartsSaid :=
  OpenClaim.holds_of_wide 4 Try.f4 rfl rfl rfl rfl rfl rfl rfl ⟨rfl, rfl, rfl, rfl, rfl⟩ rfl rfl rfl rfl rfl (by kernel_rfl) Try.func4 (by kernel_rfl)
    (of_decide_eq_true (by kernel_rfl)) (by unfold Func.isWrapper; rw [if_neg (of_decide_eq_false (by kernel_rfl))]; exact ⟨rfl, rfl⟩)
    (fun os started H enc _ => shaParts_lifted os started H enc)
end Go.Proofs.Ytcnjffckjcoafaa
