/-
  Arguments opened: a slice of calls of law 06; light.
-/
import Derived.Test.YticdanndfogjfaaGreatDoorBkLaid
import Derived.Test.YticdanndfogjfaaGreatDoorBkStands
set_option linter.unusedSimpArgs false
set_option linter.unusedVariables false
namespace Go.Proofs.YticdanndfogjfaaGreatDoor
open Go.RowKit Go.ChangeShapes Go.WideShapes Go.ChangeAt Go.Deep Sh Go.Extern.Stop Go.Stop Go.Extern

theorem Tryz.cellsCall : Tryz.prog.cellsOf 35 = 4 := by kernel_rfl
/-- A call of a law's list. -/
structure CallD where
  kind : Int
  i : Int
  what : UInt8
  ap : Option Addr
  pick : List Int
  cp : Nat
def callCells (c : CallD) : List Value := [.int .i64 c.kind, .int .i64 c.i, cu8 c.what, .slice c.ap c.pick.length c.cp]
structure CallOk (N : Nat) (w : World) (c : CallD) : Prop where
  pick : Nums N w c.ap c.pick
  len : c.pick.length ≤ 9223372036854775807
  lo : -9223372036854775808 ≤ c.i
  hi : c.i ≤ 9223372036854775807
/-- A slice of calls, wherever it lies below block N. -/
def CallsAt (N : Nat) (w : World) (bp : Option Addr) (cs : List CallD) : Prop := cs = [] ∨ ∃ b o, bp = some ⟨b, o, none⟩ ∧ b < N ∧ ∀ (j : Nat) (c : CallD), cs[j]? = some c → w.rangeAt b (o + j * 4) (callCells c) ∧ CallOk N w c
theorem CallOk.below {N : Nat} {w w' : World} {c : CallD} (h : CallOk N w c) (hb : Below N w w') : CallOk N w' c := ⟨h.pick.below hb, h.len, h.lo, h.hi⟩
theorem CallsAt.below {N : Nat} {w w' : World} {bp : Option Addr} {cs : List CallD} (h : CallsAt N w bp cs) (hb : Below N w w') : CallsAt N w' bp cs :=
  h.imp id (fun ⟨b, o, h1, h2, h3⟩ => ⟨b, o, h1, h2, fun j c hj => ⟨fun k v hk => (hb.cell (p := ⟨b, o + j * 4 + k, none⟩) h2).trans ((h3 j c hj).1 k v hk), (h3 j c hj).2.below hb⟩⟩)

theorem add_off (b off i : Nat) : (⟨b, off, none⟩ : Addr).add i = ⟨b, off + i, none⟩ := by unfold Addr.add; split <;> simp_all

/-- A slice of ints, as the reader has it. -/
theorem nums_of_trod {H : Type} {enc : TypeId × Value → H} {P : Program} {t e : TypeId} (ht : P.underlying t = some (.slice e)) (he : P.underlying e = some (.int .i64)) (hc : P.cellsOf e = 1)
    {W : World} {base fuel : Nat} {spare : Nat → Bool} {held : Bool} {v : Value} {x : DataW H × List MemPlace} (hf : DataW.trod enc P W base spare held fuel t [v] = some x) :
    ∃ (a : Option Addr) (zs : List Int) (cap : Nat), v = .slice a zs.length cap ∧ Nums W.heap.size W a zs ∧ zs.length ≤ 9223372036854775807 := by
  rcases open_ints ht he hc hf with ⟨hcs, _⟩ | ⟨a, len', cap', zs, hcs, _, hl, hm, hz, hx, hcell, hwz⟩
  · simp only [List.cons.injEq, and_true] at hcs
    exact ⟨none, [], 0, hcs, .inl rfl, by simp⟩
  · simp only [List.cons.injEq, and_true] at hcs
    have hlz : len' ≤ zs.length := by rw [hz]; split <;> omega
    unfold maxLen at hm
    refine ⟨some a, zs.take len', cap', by rw [List.length_take, Nat.min_eq_left hlz]; exact hcs, ?_, by rw [List.length_take]; omega⟩
    rcases Nat.eq_zero_or_pos len' with h | hpos
    · exact .inl (by rw [h]; rfl)
    right
    obtain ⟨b, off, s⟩ := a
    obtain rfl : s = none := by simpa [Addr.add] using World.cell?_spot (hcell 0 (by omega))
    refine ⟨b, off, rfl, ?_, fun i z hi => ?_⟩
    · have := World.block_lt_of_cell? W _ (hcell 0 (by omega))
      simpa [add_off] using this
    · have hil : i < len' := by have := (List.getElem?_eq_some_iff.1 hi).1; rw [List.length_take] at this; omega
      have hiz : i < zs.length := by omega
      rw [← add_off, hcell i hiz]
      rw [List.getElem?_take, if_pos hil] at hi
      rw [List.getD_eq_getElem?_getD, hi]; rfl

theorem open_nums {H : Type} {enc : TypeId × Value → H} {W : World} {v : Value} {d0 : DataW H} {p : List MemPlace} (h0 : DataW.Trod enc Tryz.prog W 0 (fun _ => true) true 33 v d0 p) (hv : v.cells = #[v]) :
    ∃ (a : Option Addr) (zs : List Int) (cap : Nat), v = .slice a zs.length cap ∧ Nums W.heap.size W a zs ∧ zs.length ≤ 9223372036854775807 := by
  obtain ⟨fuel, hf⟩ := h0
  rw [hv] at hf
  exact nums_of_trod Tryz.underlying33 Tryz.underlying3 Tryz.cellsInt hf

set_option maxRecDepth 100000 in
theorem call_of_trod {H : Type} {enc : TypeId × Value → H} {W : World} {base fuel : Nat} {spare : Nat → Bool} {held : Bool} {cs : List Value} {x : DataW H × List MemPlace} (hf : DataW.trod enc Tryz.prog W base spare held fuel 35 cs = some x) :
    ∃ c : CallD, cs = callCells c ∧ CallOk W.heap.size W c := by
  obtain ⟨y0, y1, y2, y3, n, _, hl, h0, h1, h2, h3⟩ := Joins.trod_struct4 Tryz.underlying35 hf
  rw [Tryz.cellsCall] at hl
  match cs, hl with
  | [c0, c1, c2, c3], _ =>
    obtain ⟨k, e0, _, _⟩ := DataW.trod_int Tryz.underlying3 h0
    obtain ⟨i, e1, _, w1⟩ := DataW.trod_int Tryz.underlying3 h1
    obtain ⟨b, e2, _, w2⟩ := DataW.trod_int Tryz.underlying5 h2
    have f0 : [c0] = [Value.int .i64 k] := e0
    have f1 : [c1] = [Value.int .i64 i] := e1
    have f2 : [c2] = [Value.int .u8 b] := e2
    have h3' : DataW.trod enc Tryz.prog W base spare held n 33 [c3] = some y3 := h3
    obtain ⟨a, zs, cap, e3, hn, hz⟩ := nums_of_trod Tryz.underlying33 Tryz.underlying3 Tryz.cellsInt h3'
    simp only [List.cons.injEq, and_true] at f0 f1 f2
    have g1 : IntKind.u8.min = 0 := rfl
    have g2 : IntKind.u8.max = 255 := rfl
    simp only [Lit.wf, Bool.and_eq_true, decide_eq_true_eq] at w1 w2
    have m1 : IntKind.i64.min = -9223372036854775808 := rfl
    have m2 : IntKind.i64.max = 9223372036854775807 := rfl
    have eb : cu8 (UInt8.ofNat b.toNat) = .int .u8 b := by
      rw [cu8, bz_eq, UInt8.toNat_ofNat']
      congr 1
      omega
    refine ⟨⟨k, i, UInt8.ofNat b.toNat, a, zs, cap⟩, ?_, ⟨hn, hz, by show _ ≤ i; omega, by show i ≤ _; omega⟩⟩
    rw [f0, f1, f2, e3, callCells, eb]

theorem open_calls {H : Type} {enc : TypeId × Value → H} {W : World} {a0 : Option Addr} {len cap : Nat} {d0 : DataW H} {p : List MemPlace} (h0 : DataW.Trod enc Tryz.prog W 0 (fun _ => true) true 22 (.slice a0 len cap) d0 p) :
    ∃ cs : List CallD, cs.length = len ∧ CallsAt W.heap.size W a0 cs ∧ len ≤ 9223372036854775807 := by
  obtain ⟨fuel, hf⟩ := h0
  rcases open_slice Tryz.underlying22 hf with ⟨hcs, _⟩ | ⟨a, len', cap', m, n, D, Pl, hcs, _, hl, hm, hmm, hx, hrow⟩
  · simp [Value.cells] at hcs
    obtain ⟨rfl, rfl, rfl⟩ := hcs
    exact ⟨[], rfl, .inl rfl, by omega⟩
  · simp [Value.cells] at hcs
    obtain ⟨rfl, rfl, rfl⟩ := hcs
    unfold maxLen at hm
    have hlm : len ≤ m := by rw [hmm]; split <;> omega
    rw [Tryz.cellsCall] at hrow
    have hc : ∀ i, i < len → ∃ c : CallD, (∀ k v, (callCells c)[k]? = some v → W.cell? (a.add (i * 4 + k)) = some v) ∧ CallOk W.heap.size W c := fun i hi => by
      obtain ⟨cs', h1, h2⟩ := hrow i (by omega)
      obtain ⟨c, rfl, hok⟩ := call_of_trod h2
      obtain ⟨_, hlen, hcell⟩ := World.cells?_some h1
      refine ⟨c, fun k v hk => ?_, hok⟩
      have hk4 : k < 4 := by have := (List.getElem?_eq_some_iff.1 hk).1; simpa [callCells] using this
      have := hcell k hk4
      rw [hk] at this
      rw [← this, Deep.add_add]
    classical
    refine ⟨(List.range len).map (fun i => if h : i < len then (hc i h).choose else ⟨0, 0, 0, none, [], 0⟩), by simp, ?_, by omega⟩
    rcases Nat.eq_zero_or_pos len with h | hpos
    · exact .inl (by subst h; rfl)
    right
    obtain ⟨b, off, s⟩ := a
    obtain ⟨c0, hc0, _⟩ := hc 0 hpos
    have h00 := hc0 0 (.int .i64 c0.kind) rfl
    obtain rfl : s = none := by simpa [Addr.add] using World.cell?_spot h00
    refine ⟨b, off, rfl, ?_, fun j c hj => ?_⟩
    · have := World.block_lt_of_cell? W _ h00
      simpa [add_off] using this
    · have hjl : j < len := by simpa using (List.getElem?_eq_some_iff.1 hj).1
      have ec : (hc j hjl).choose = c := by simpa [hjl] using hj
      obtain ⟨h1, h2⟩ := (hc j hjl).choose_spec
      rw [ec] at h1 h2
      exact ⟨fun k v hk => by have := h1 k v hk; rwa [add_off, ← Nat.add_assoc] at this, h2⟩
theorem infoCall : (Tryz.prog.info? 35).map (·.size) = some 4 := by kernel_rfl
def zeroCall : Array Value := #[.int .i64 0, .int .i64 0, .int .u8 0, .slice none 0 0]
theorem allocCall (w : World) : (Instr.alloc 35 true (.tuple #[])).run Tryz.prog w = .ok (.pointer (some ⟨w.heap.size, 0, none⟩)) (w.alloc (.cells zeroCall 35)) := by kernel_rfl
theorem call_one (c : CallD) : (callCells c).toArray.all (·.oneCell') = true := by simp [callCells, Value.oneCell', cu8]
def LightP (w : World) (e : Ending) (w' : World) : Prop := ∃ b, e = .returned (.bool b) ∧ Below w.heap.size w w'
set_option maxRecDepth 100000 in
set_option maxHeartbeats 4000000 in
theorem light_any (cs : List CallD) (bp : Option Addr) (cap : Nat) (w : World) (hC : CallsAt w.heap.size w bp cs) (hn : cs.length ≤ 9223372036854775807) : Calls Tryz.prog 16 #[.slice bp cs.length cap] w (LightP w) := by
  obtain ⟨L, hL⟩ : ∃ L, cs.length = L := ⟨_, rfl⟩
  rw [hL] at hn ⊢
  have HL := Lib.hid hL
  clear hL
  go_enter Tryz.func16, Tryz.ntmps16
  go_wp2
  go_loopg [3, 10] L (fun m x v wr => ∃ (k : Nat) (s : Int), m = L - k ∧ k ≤ L ∧ x = .int .i64 s ∧ v = .int .i64 k ∧ Below w.heap.size w wr)
  case atStart => exact ⟨0, L, rfl, by omega, rfl, rfl, Below.refl _ _⟩
  case round =>
    obtain ⟨k, s, rfl, hk, rfl, rfl, hb⟩ := hrel
    by_cases hlt : k < L
    · have hlt' : (k : Int) < (L : Int) := by omega
      have hwk : IntKind.i64.wrap ((k : Int) + 1) = ((k + 1 : Nat) : Int) := by rw [IntWalk.i64_in _ (by omega)]; omega
      have hka : k < cs.length := by rw [HL.out]; exact hlt
      obtain ⟨bq, oq, hbe, hbq, hcs⟩ := (hC.below hb).resolve_left (by intro h0; rw [h0] at hka; simp at hka)
      first | subst hbe | (replace hbe := hbe.symm; simp only [Option.some.injEq, Addr.mk.injEq, and_true] at hbe; obtain ⟨rfl, rfl⟩ := hbe)
      obtain ⟨hrange, hok⟩ := hcs k cs[k] (List.getElem?_eq_getElem hka)
      obtain ⟨c, hc⟩ : ∃ c, cs[k] = c := ⟨_, rfl⟩
      rw [hc] at hrange hok
      have HRg := Lib.hid hrange
      have hci : Hid ((Tryz.prog.info? 35).map (·.size) = some (callCells c).length) := (infoCall : (Tryz.prog.info? 35).map (·.size) = some 4)
      have hci2 : Hid ((Tryz.prog.info? 35).map (·.size) = some (callCells c).toArray.size) := (infoCall : (Tryz.prog.info? 35).map (·.size) = some 4)
      have hcone : Hid ((callCells c).toArray.all (·.oneCell') = true) := call_one c
      have hcold : Hid (zeroCall.size = (callCells c).toArray.size) := (rfl : zeroCall.size = 4)
      have hba : Below wr.heap.size wr (wr.alloc (.cells (callCells c).toArray 35)) := (Below.refl _ wr).alloc (Nat.le_refl _) _
      have hck : (wr.alloc (.cells (callCells c).toArray 35)).heap[wr.heap.size]? = some (.cells (callCells c).toArray 35 (0, 0)) := heap_alloc_new wr _
      have hb2 := hb.trans (hba.mono hb.size)
      clear hcs hrange hc hok
      go_upto_region 5 with (first
        | (refine wpList_load_mid rfl 35 _ rfl bq (oq + k * 4) rfl (callCells c) _ HRg.out Tryz.underlying35 rfl hci.out ?_)
        | (refine wpList_alloc_arr rfl 35 rfl _ allocCall ?_)
        | (refine wpList_store_new rfl 35 _ _ rfl wr.heap.size rfl (callCells c).toArray rfl rfl 35 _ hci2.out hcold.out hcone.out ?_))
      generalize wr.alloc (.cells (callCells c).toArray 35) = wa at hba hck hb2 ⊢
      obtain ⟨bc, hbc⟩ : ∃ bc, wr.heap.size = bc := ⟨_, rfl⟩
      rw [hbc] at hck ⊢
      have ck3 : wa.cell? ⟨bc, 3, none⟩ = some (.slice c.ap c.pick.length c.cp) := by rw [cell_of_row wa bc 3 _ _ _ hck]; rfl
      clear hck hba hbc HRg hci hci2 hcone hcold hb
      go_wp2
      go_roundg (L - (k + 1))
      case measure => omega
      case rel => exact ⟨k + 1, _, rfl, by omega, rfl, by go_num, hb2⟩
    · obtain rfl : k = L := by omega
      go_wp2
      go_ret
      exact ⟨_, rfl, hb⟩
end Go.Proofs.YticdanndfogjfaaGreatDoor
