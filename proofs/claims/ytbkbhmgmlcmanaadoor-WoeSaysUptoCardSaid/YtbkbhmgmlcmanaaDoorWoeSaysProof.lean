/-
  'WoeSays': an error's text is its places', parted, and its number's; one that was made of nothing says so.
  Where the arguments hold together at most 1048576 values and letters ('Upto': beyond 2147483646 places the program takes a chain for one that never ends).
  Conditions: the package variables errors.errorType, internal/strconv.uint64pow10, math/bits.deBruijn32tab and math/bits.deBruijn64tab are laid as the program's text lays them (the card ties them); the row's own cells: a call through an interface or a function value is not followed ('unfollowed'), functions that call themselves ('recurses').
-/
import Derived.Test.YtbkbhmgmlcmanaaDoorCards
import Derived.Test.YtbkbhmgmlcmanaaDoorTie
import Derived.Test.YtbkbhmgmlcmanaaDoorWoeSays
import Derived.Test.YtbkbhmgmlcmanaaDoorWoeOpen
import Derived.Test.YtbkbhmgmlcmanaaDoorWoeTab
namespace Go.Proofs.YtbkbhmgmlcmanaaDoor
open Go.RowKit Go.ChangeShapes Go.WideShapes Go.ChangeAt Go.Deep

theorem woeSays_laid {W : World} (h : laidMetH Tryd.prog Rows.woeSaysUptoRow.laid W) : Laid W ∧ Tab W :=
  ⟨laid_of_handles (List.mem_singleton.2 rfl) (show laidMet Tryd.prog [("math/bits.deBruijn32tab", Rows.laid_math_bits_deBruijn32tab), ("math/bits.deBruijn64tab", Rows.laid_math_bits_deBruijn64tab), ("internal/strconv.uint64pow10", Rows.laid_internal_strconv_uint64pow10)] W ∧ handlesMet Tryd.prog [("errors.errorType", Rows.laid_errors_errorType)] W from h).2,
    tab_of_laid (show laidMet Tryd.prog [("math/bits.deBruijn32tab", Rows.laid_math_bits_deBruijn32tab), ("math/bits.deBruijn64tab", Rows.laid_math_bits_deBruijn64tab), ("internal/strconv.uint64pow10", Rows.laid_internal_strconv_uint64pow10)] W ∧ handlesMet Tryd.prog [("errors.errorType", Rows.laid_errors_errorType)] W from h).1⟩

set_option maxRecDepth 100000 in
theorem woeSays_contract (H : Type) (enc : TypeId × Value → H) (W : World) (base : Nat) (args : Array Value) (ds gs : List (DataW H)) (before : List MemPlace)
    (hval0 : ∀ (j : Nat) t v, Tryd.f5.params[j]? = some t → args[j]? = some v → Value.okWide Tryd.prog W .any base t v)
    (hW : DataW.Whole enc Tryd.prog Tryd.f5.params.toList Rows.woeSaysSpec.vars false W args.toList ds gs before)
    (hsz0 : (DataW.weightsEach Tryd.prog (Tryd.f5.params.toList ++ Rows.woeSaysSpec.plain.varTypes Tryd.prog) (ds ++ gs)).all (· ≤ reachBytes) = true)
    (hk : ∀ k, (Rows.OpenSpec.upto Rows.woeSaysSpec).cond = some k → k H (ds ++ gs) = true) (hL : Laid W ∧ Tab W) :
    Calls Tryd.prog 5 args W fun e W' => ∃ v, e = .returned v ∧ Rows.woeSaysSpec.post enc Tryd.prog Tryd.f5 false true false false W args v W' := by
  have hval := hval0
  have hsz := hsz0
  have hW' := hW
  obtain ⟨p, q, hA0, hV, rfl, hfz, hnd⟩ := hW
  have hA : DataW.TrodAll enc Tryd.prog W 0 (fun _ => true) true Tryd.f5.params.toList args.toList ds p := hA0
  rw [Tryd.params5] at hA hval hsz
  obtain ⟨v0, vs0, d0, ds0, p0, q0, hargs, rfl, rfl, h0, r0⟩ := trodAll_cons hA
  obtain ⟨v1, vs1, d1, ds1, p1, q1, rfl, rfl, rfl, h1, r1⟩ := trodAll_cons r0
  obtain ⟨rfl, rfl, rfl⟩ := trodAll_nil r1
  obtain rfl : args = #[v0, v1] := by cases args; simp_all
  obtain ⟨rfl, rfl⟩ := trodVars_none hV
  obtain ⟨aS, lenS, capS, rfl⟩ := okWide_slice Tryd.underlying23 (hval 1 23 v1 rfl rfl)
  have kS := h1
  have ltS : ∀ x ∈ p1, x.block < W.heap.size := by obtain ⟨m, hm⟩ := kS; exact DataW.trod_lt m _ _ _ hm
  obtain ⟨ss, rfl, hT, hlen, hds, hmx⟩ := open_texts Tryd.underlying23 Tryd.underlying9 Tryd.cellsStr Tryd.bytesStr h1 hsz 1 rfl rfl
  obtain ⟨n0, rfl, rfl, rfl, w0⟩ := open_int Tryd.underlying22 (hval 0 22 v0 rfl rfl) h0
  have hbulk := bulk_texts hds rfl (hk _ rfl)
  clear hA0 hval0 hsz0
  refine (woeSays_any n0 aS ss capS W hL.1 hL.2 hT (by rw [← letters_ssize]; exact hbulk) (int64_in w0).1 (int64_in w0).2).mono fun e W' ⟨he, bel⟩ => ?_
  subst he
  exact ⟨_, rfl, _, _, _, [], _, [], hW', trodAll_mk1 (shut_bool Tryd.underlying4 _), (trodAll_cons_mk (shut_int Tryd.underlying22 w0) (trodAll_cons_mk (Below.trod Tryd.laidOut (by kernel_rfl) (of_decide_eq_true (by kernel_rfl)) kS bel ltS) trodAll_mk0)), rfl, bel.frame _, fun h => by cases h⟩

theorem woeSays_met (os : Os) : laidMetH Tryd.prog Rows.woeSaysUptoRow.laid ((laidWorld4 os).forCall (fun _ _ => 0) ⟨#[], #[.int .i64 0, .slice none 0 0], []⟩).memory :=
  laidMetH_of_parts (laidMet_of_run' 8 (by kernel_rfl) (by kernel_rfl)) (by kernel_rfl)
theorem woeSays_reads (os : Os) {H : Type} (enc : TypeId × Value → H) : ∃ places, DataW.whole enc Tryd.prog ((laidWorld4 os).forCall (fun _ _ => 0) ⟨#[], #[.int .i64 0, .slice none 0 0], []⟩).memory Tryd.f5.params.toList Rows.woeSaysSpec.vars false (#[.int .i64 0, .slice none 0 0] : Array Value).toList 8 = some ([.lit (.int .i64 0), .nil], [], places) :=
  ⟨[], by kernel_rfl⟩

set_option maxRecDepth 100000 in
theorem woeSays_lifted (os : Os) (started : os.Started) (H : Type) (enc : TypeId × Value → H) (F : Stop.Interp) :
    ReturnsInHanded {} Tryd.checked os 5 .any ((Rows.OpenSpec.upto Rows.woeSaysSpec).preRow enc Tryd.prog Tryd.f5 Rows.woeSaysUptoRow.domain false Rows.woeSaysUptoRow.laid) (((Rows.OpenSpec.upto Rows.woeSaysSpec).at F).post enc Tryd.prog Tryd.f5 false true false false) := by
  obtain ⟨places, hx⟩ := woeSays_reads os enc
  refine returnsInHanded_of_row (C := Tryd.checked) (s := (Rows.OpenSpec.upto Rows.woeSaysSpec)) Tryd.own started (by kernel_rfl) Tryd.func5
    (witness_row_at (enc := enc) (C := Tryd.checked) false (laidWorld4 os) #[.int .i64 0, .slice none 0 0] rfl (by kernel_rfl) (by kernel_rfl) (by kernel_rfl)
      (OpenSpec.preRow_of_cond 8 hx (by kernel_rfl) (fun k hk => by cases hk; kernel_rfl) (by kernel_rfl) (woeSays_met os))) ?_
  intro W base args ds gs before hval hW _ hk hsz hL _ _
  exact woeSays_contract H enc W base args ds gs before hval hW hsz hk (woeSays_laid hL)

theorem woeSays_said : Rows.WoeSaysUptoSaid :=
  OpenClaim.holds_of_cond 5 Tryd.f5 rfl rfl rfl rfl rfl rfl rfl ⟨rfl, rfl, rfl, rfl, rfl⟩ rfl rfl rfl rfl rfl (by kernel_rfl) Tryd.func5 (by kernel_rfl)
    (of_decide_eq_true (by kernel_rfl)) (by unfold Func.isWrapper; first | (rw [if_pos (by decide +kernel)]; kernel_rfl) | (rw [if_neg (by decide +kernel)]; exact ⟨rfl, rfl⟩))
    (fun os started H enc _ F => by rw [OpenClaim.pre_eq_preRow]; exact woeSays_lifted os started H enc F)

theorem woeSays_plain (f : FuncId) (fn : Func) (hf : Tryd.pinned.checked.prog.funcNamed "bulkhead/bulkheadlaw03.WoeSays" = some f) (hfn : Tryd.pinned.checked.prog.funcs[f]? = some fn) :
    true = Tryd.pinned.checked.prog.looks [] ∧ ∀ (j : Nat) t, fn.params[j]? = some t → Tryd.pinned.checked.prog.wantsStandIn t = false := by
  obtain rfl : f = 5 := Option.some.inj ((show Tryd.prog.funcNamed "bulkhead/bulkheadlaw03.WoeSays" = some 5 by kernel_rfl).symm.trans hf) |>.symm
  obtain rfl : fn = Tryd.f5 := (Option.some.inj (Tryd.func5.symm.trans hfn)).symm
  refine ⟨by kernel_rfl, fun j t ht => ?_⟩
  rw [Tryd.params5] at ht
  have hm := Array.mem_of_getElem? ht
  simp only [List.mem_toArray, List.mem_cons, List.not_mem_nil, or_false] at hm
  rcases hm with rfl | rfl
  · exact (show Tryd.prog.wantsStandIn 22 = false by kernel_rfl)
  · exact (show Tryd.prog.wantsStandIn 23 = false by kernel_rfl)

theorem woeSays_card : Rows.WoeSaysUptoCardSaid :=
  Claim7.holds_tied_plain_at .later [] _ _ _ _ woeSays_said (fun _ h => by cases h) (by kernel_rfl) (fun _ h => by cases h) woeSaysUpto_row_tie rfl ⟨rfl, rfl⟩ (by kernel_rfl) rfl woeSays_plain (by kernel_rfl)
end Go.Proofs.YtbkbhmgmlcmanaaDoor
