/-
  pdu.put: a number laid into a part of a row, its lowest byte last, by a range over slices.Backward.
-/
import Derived.Test.YtakejggofghblaaPdNum
import Derived.RangeFuncNested
import Derived.RangeFuncBox
import Derived.RangeFuncBound
import Derived.RangeFuncLeaves
import Derived.RangeFuncCalls
import Derived.Shelf.Abstract
import Derived.Shelf.RegionOpen
import Derived.OwnWalkIn
import Derived.TacticsInMore
import Derived.LoopNIn
import Derived.LoopIn
import Derived.Maps.Range
set_option linter.unusedSimpArgs false
set_option linter.unusedVariables false
namespace Go.Proofs.Ytakejggofghblaa
open Go.RowKit Go.Shelf Sh Cr Pd
attribute [local go_sem] Oper.semAt_some

def CellsB (W : World) (g o n : Nat) : Prop := ∀ j, j < n → ∃ c : UInt8, W.cell? ⟨g, o + j, none⟩ = some (.int .u8 (bz c))
/-- What a round keeps. -/
def PutK (bb g o n : Nat) (W W' : World) : Prop := W'.cell? ⟨bb, 0, none⟩ = W.cell? ⟨bb, 0, none⟩ ∧ (CellsB W g o n → CellsB W' g o n)
abbrev PutE (n : Nat) := { x : Nat × UInt8 // x.1 < n }
def putEnc (n : Nat) (x : PutE n) : Array Value := #[.int .i64 (x.1.1 : Int), .int .u8 (bz x.1.2)]
def desc (n k : Nat) : List Nat := (List.range k).map fun j => n - 1 - j
theorem desc_succ (n k : Nat) : desc n (k + 1) = desc n k ++ [n - 1 - k] := by simp [desc, List.range_succ]
theorem desc_next {n k q : Nat} {pre : List (PutE n)} {c : UInt8} {hq : q < n} (h : pre.map (fun x => x.1.1) = desc n k) (hk : k + (q + 1) = n) : (pre ++ [(⟨(q, c), hq⟩ : PutE n)]).map (fun x => x.1.1) = desc n (k + 1) := by
  rw [List.map_append, h, desc_succ]
  have : n - 1 - k = q := by omega
  rw [this]; rfl
theorem desc_length (n k : Nat) : (desc n k).length = k := by simp [desc]

set_option maxRecDepth 100000 in
set_option maxHeartbeats 2000000 in
theorem back1_in (F : Fence) (m : Nat) (hF : F.fn 48) (hro : F.round = none) (hm : 1 ≤ m) (l bb g o n cap : Nat) (hn : n ≤ 1000) (J Jx : List (PutE n) → World → Prop)
    (hY : ∀ pre x W, J pre W → pre.length < n → YieldAt F (m - 1) Try.prog l (putEnc n x) W fun e W' =>
      (e = .returned (.bool true) ∧ J (pre ++ [x]) W' ∧ PutK bb g o n W W') ∨ (e = .returned (.bool false) ∧ Jx (pre ++ [x]) W'))
    (W : World) (hBs : W.cell? ⟨bb, 0, none⟩ = some (.slice (some ⟨g, o, none⟩) n cap)) (hc : CellsB W g o n) (h0 : J [] W) :
    CallsIn F m Try.prog 48 #[.func (.yield l) #[] #[], .pointer (some ⟨bb, 0, none⟩)] W fun e W' => (∃ v, e = .returned v) ∧
      ((∃ ys : List (PutE n), ys.map (fun x => x.1.1) = desc n n ∧ J ys W') ∨ (∃ pre, True ∧ Jx pre W')) := by
  refine callsIn_of_wp Try.func48 rfl hF ?_ hro
  simp only [Try.ntmps48, List.size_toArray, List.length_cons, List.length_nil, Nat.reduceAdd, Nat.reduceSub, Array.replicate_succ, Array.replicate_zero, List.push_toArray, List.append_toArray, List.nil_append, List.cons_append]
  gi_wp2
  gi_loopw [3] (fun i wr => ∃ (k q : Nat) (z : Int) (pre : List (PutE n)), k + q = n ∧ i = .int .i64 z ∧ z + 1 = q ∧ pre.map (fun x => x.1.1) = desc n k ∧ J pre wr ∧ Hid (CellsB wr g o n) ∧ Hid (wr.cell? ⟨bb, 0, none⟩ = some (.slice (some ⟨g, o, none⟩) n cap)))
    (fun i _ => (intOf i + 1).toNat)
  case atStart => exact ⟨0, n, _, [], by omega, rfl, by omega, rfl, h0, Lib.hid hc, Lib.hid hBs⟩
  case round =>
    clear hBs hc h0
    obtain ⟨k, q, z, pre, hk, rfl, hz, hpre, hJs, Hc, Hs⟩ := hrel
    cases q with
    | succ q =>
      obtain rfl : z = (q : Int) := by omega
      obtain ⟨c, hcx⟩ := Hc.out q (by omega)
      have hbx := Hs.out
      have hlt : (q : Int) < n := by omega
      have hge : (0 : Int) ≤ q := by omega
      have HP := Lib.hid hpre; have HK := Lib.hid hk; clear hpre hk hz
      obtain ⟨fn, tmps, assign, body, hy, hR⟩ := hY pre ⟨(q, c), by omega⟩ wr hJs (by rw [← List.length_map (f := fun x : PutE n => x.1.1), HP.out, desc_length]; have := HK.out; omega)
      dsimp only [putEnc] at hy
      gi_wp2
      refine hR.mono ?_
      rintro e W3 (⟨rfl, hJ3, hk3⟩ | ⟨rfl, hJx3⟩)
      · gi_wp2
        go_roundw
        case rel => exact ⟨k + 1, q, _, pre ++ [⟨(q, c), by omega⟩], by have := HK.out; omega, rfl, by omega, desc_next HP.out HK.out, hJ3, Lib.hid (hk3.2 Hc.out), Lib.hid (hk3.1.trans Hs.out)⟩
        case measure => simp [intOf]
      · gi_wp2
        refine bodyPost_ret (results_none rfl _ _ _) rfl ?_
        exact ⟨⟨_, rfl⟩, .inr ⟨_, trivial, hJx3⟩⟩
    | zero =>
      obtain rfl : z = -1 := by omega
      obtain rfl : k = n := by omega
      have HP := Lib.hid hpre; clear hpre hk hz
      gi_wp2
      go_end0
      exact ⟨⟨_, rfl⟩, .inl ⟨_, HP.out, hJs⟩⟩

set_option maxHeartbeats 1000000 in
theorem backward_in (F : Fence) (n : Nat) (hF : F.fn 45) (hro : F.round = none) (a : Option Addr) (len cap : Nat) (w : World) :
    CallsIn F n Try.prog 45 #[.slice a len cap] w fun e w' => e = .returned (.func (.func 48) #[] #[.pointer (some ⟨w.heap.size, 0, none⟩)]) ∧ w' = w.alloc (.cells #[.slice a len cap] 23) := by
  refine callsIn_of_wp Try.func45 rfl hF ?_ hro
  simp only [Try.ntmps45, List.size_toArray, List.length_cons, List.length_nil, Nat.reduceAdd, Nat.reduceSub, Array.replicate_succ, Array.replicate_zero, List.push_toArray, List.append_toArray, List.nil_append, List.cons_append]
  gi_wp2
  go_ret
  exact ⟨rfl, rfl⟩

theorem backward_stops (F : Fence) (m : Nat) (hF : F.fn 48) (hro : F.round = none) (hm : 1 ≤ m) (bb g o n cap : Nat) (hn : n ≤ 1000) (w : World) (hbb : bb < w.heap.size) (hg : g < w.heap.size)
    (hc : w.cell? ⟨bb, 0, none⟩ = some (.slice (some ⟨g, o, none⟩) n cap)) (hI : CellsB w g o n) :
    SeqStopsK F m Try.prog 48 #[.pointer (some ⟨bb, 0, none⟩)] (putEnc n) (PutK bb g o n) (fun ys => ys.map (fun x => x.1.1) = desc n n) (fun _ => True) n w := fun l J Jx W hW _ _ hY h0 =>
  back1_in F m hF hro hm l bb g o n cap hn J Jx hY W ((hW.cell (p := ⟨bb, 0, none⟩) hbb).trans hc) (fun j hj => (hI j hj).imp fun c h => (hW.cell (p := ⟨g, o + j, none⟩) hg).trans h) h0

def putF (o : Nat) (l : List UInt8) (x : Nat) (is : List Nat) : List UInt8 × Nat := is.foldl (fun s i => (s.1.set (o + i) (UInt8.ofNat (s.2 % 256)), s.2 / 256)) (l, x)
def putL (l : List UInt8) (o n x : Nat) : List UInt8 := l.take o ++ toBe n x ++ l.drop (o + n)
theorem putF_snoc (o : Nat) (l : List UInt8) (x : Nat) (is : List Nat) (i : Nat) : putF o l x (is ++ [i]) = ((putF o l x is).1.set (o + i) (UInt8.ofNat ((putF o l x is).2 % 256)), (putF o l x is).2 / 256) := by simp [putF]
theorem set_take {α : Type} (l r : List α) (i : Nat) (v : α) (h : i < l.length) : (l.take (i + 1) ++ r).set i v = l.take i ++ v :: r := by
  rw [List.take_succ_eq_append_getElem h, List.append_assoc, List.set_append_right _ _ (by rw [List.length_take]; omega), List.length_take, Nat.min_eq_left (by omega), Nat.sub_self]
  rfl
theorem putF_desc (o : Nat) (l : List UInt8) (x n k : Nat) (hk : k ≤ n) (h : o + n ≤ l.length) : putF o l x (desc n k) = (l.take (o + n - k) ++ toBe k x ++ l.drop (o + n), x / 256 ^ k) := by
  induction k with
  | zero => simp [desc, putF, toBe]
  | succ k ih =>
    rw [desc_succ, putF_snoc, ih (by omega)]
    have e : o + n - k = (o + (n - 1 - k)) + 1 := by omega
    have e2 : o + n - (k + 1) = o + (n - 1 - k) := by omega
    simp only
    rw [e, e2, List.append_assoc, set_take _ _ _ _ (by omega), toBe_cons, Nat.div_div_eq_div_mul, ← Nat.pow_succ]
    simp
theorem putF_all (o : Nat) (l : List UInt8) (x n : Nat) (h : o + n ≤ l.length) : (putF o l x (desc n n)).1 = putL l o n x := by
  rw [putF_desc o l x n n (Nat.le_refl _) h]
  simp [putL]
theorem putF_length (o : Nat) (l : List UInt8) (x : Nat) (is : List Nat) : (putF o l x is).1.length = l.length := by
  suffices h : ∀ (s : List UInt8 × Nat), (is.foldl (fun s i => (s.1.set (o + i) (UInt8.ofNat (s.2 % 256)), s.2 / 256)) s).1.length = s.1.length from h (l, x)
  induction is with
  | nil => intro s; rfl
  | cons i is ih => intro s; rw [List.foldl_cons, ih]; simp
theorem putL_length (l : List UInt8) (o n x : Nat) (h : o + n ≤ l.length) : (putL l o n x).length = l.length := by rw [← putF_all o l x n h, putF_length]

theorem low_byte (X : Nat) : IntKind.u8.wrap (X : Int) = bz (UInt8.ofNat (X % 256)) := by
  rw [IntKind.wrap_u8', bz_eq, UInt8.toNat_ofNat']; omega
theorem row_set {W : World} {g i : Nat} {l : List UInt8} {t : TypeId} (h : W.heap[g]? = some (.cells (l.map cu8).toArray t (0, 0))) (c : UInt8) : (W.setCell ⟨g, i, none⟩ (.int .u8 (bz c))).heap[g]? = some (.cells ((l.set i c).map cu8).toArray t (0, 0)) := by
  simp [World.setCell, Array.getElem?_modify, h, List.map_set, cu8]
theorem row_cell {W : World} {g i : Nat} {l : List UInt8} {t : TypeId} (h : W.heap[g]? = some (.cells (l.map cu8).toArray t (0, 0))) (hi : i < l.length) : W.cell? ⟨g, i, none⟩ = some (.int .u8 (bz (at8 l i))) := by
  rw [cell_of_row W g i _ _ _ h]; simp [at8, cu8, hi]
theorem row_free {W : World} {g i : Nat} {l : List UInt8} {t : TypeId} (h : W.heap[g]? = some (.cells (l.map cu8).toArray t (0, 0))) : W.frozen? ⟨g, i, none⟩ = false := by simp [World.frozen?, h]
theorem grown_set (W : World) (g i : Nat) (v : Value) : W.grownBy (W.setCell ⟨g, i, none⟩ v) (some g) :=
  ⟨rfl, rfl, rfl, by simp [World.setCell], fun k _ hk => Below.heap_setCell W ⟨g, i, none⟩ v k (fun e => hk (by rw [e]))⟩
/-- What put leaves. -/
def PutP (w : World) (g : Nat) (t : TypeId) (l : List UInt8) (e : Ending) (w' : World) : Prop := e = .returned (.tuple #[]) ∧ w.grownBy w' (some g) ∧ w'.heap[g]? = some (.cells (l.map cu8).toArray t (0, 0))
/-- What holds between two rounds of put. -/
structure PutI (w : World) (g o n cap : Nat) (t : TypeId) (s : List UInt8 × Nat) (W : World) : Prop where
  hb : Boxed W w.heap.size 23 (.slice (some ⟨g, o, none⟩) n cap)
  hx : Boxed W (w.heap.size + 1) 24 (.int .u64 (s.2 : Nat))
  hr : W.heap[g]? = some (.cells (s.1.map cu8).toArray t (0, 0))
  hg : w.grownBy W (some g)
theorem PutI.set {w W : World} {g o n cap i : Nat} {t : TypeId} {s : List UInt8 × Nat} (h : PutI w g o n cap t s W) (hg : g < w.heap.size) :
    PutI w g o n cap t (s.1.set (o + i) (UInt8.ofNat (s.2 % 256)), s.2 / 256) ((W.setCell ⟨g, o + i, none⟩ (.int .u8 (bz (UInt8.ofNat (s.2 % 256))))).setCell ⟨w.heap.size + 1, 0, none⟩ (.int .u64 ((s.2 / 256 : Nat) : Int))) := by
  have k1 := grown_set W g (o + i) (.int .u8 (bz (UInt8.ofNat (s.2 % 256))))
  have k2 := grown_set (W.setCell ⟨g, o + i, none⟩ (.int .u8 (bz (UInt8.ofNat (s.2 % 256))))) (w.heap.size + 1) 0 (.int .u64 ((s.2 / 256 : Nat) : Int))
  refine ⟨(h.hb.kept k1 (by simp; omega)).kept k2 (by simp), (h.hx.kept k1 (by simp; omega)).set _, ?_, (h.hg.trans k1).andThen k2 (fun j e => by cases e; exact .inl (by omega))⟩
  rw [k2.block g (by have := h.hg.size; have := k1.size; omega) (by simp; omega)]
  exact row_set h.hr _
theorem putKb {w : World} {bb g o n : Nat} (hbb : bb < w.heap.size) (hg : g < w.heap.size) (W : World) (l : Nat) (ob o' : Obj) (hl : w.heap.size ≤ l) (_ : W.heap[l]? = some ob) (_ : ob.isCells = false) (_ : ob.isWalk = false) : PutK bb g o n W (W.putObj l o') := by
  have h1 : ∀ k, k < w.heap.size → (W.putObj l o').heap[k]? = W.heap[k]? := fun k hk => World.putObj_heap_other (by omega)
  exact ⟨World.cell?_of_block (h1 bb hbb), fun h j hj => (h j hj).imp fun c hc => (World.cell?_of_block (a := ⟨g, o + j, none⟩) (h1 g hg)).trans hc⟩
theorem putK_t {bb g o n : Nat} {A B C : World} (h : PutK bb g o n A B) (k : PutK bb g o n B C) : PutK bb g o n A C := ⟨k.1.trans h.1, fun x => k.2 (h.2 x)⟩
theorem CellsB.of_row {W : World} {g o n : Nat} {l : List UInt8} {t : TypeId} (h : W.heap[g]? = some (.cells (l.map cu8).toArray t (0, 0))) (hf : o + n ≤ l.length) : CellsB W g o n := fun j hj => ⟨_, row_cell h (by omega)⟩
theorem putI_own {w W0 : World} {g o n cap : Nat} {t : TypeId} {l : List UInt8} {x : Nat} (hs : W0.heap.size = w.heap.size + 3) (hg : g < w.heap.size) :
    OwnFrom W0.heap.size (fun (pre : List (PutE n)) W => PutI w g o n cap t (putF o l x (pre.map fun x => x.1.1)) W) := fun pre W W' row h hgr hr => by
  have hne : ∀ k, k < W0.heap.size → some k ≠ row := fun k hk e => by have := (hr k e.symm).1; omega
  have hsz := h.hg.size
  refine ⟨h.hb.kept hgr (hne _ (by omega)), h.hx.kept hgr (hne _ (by omega)), (hgr.block g (by omega) (hne g (by omega))).trans h.hr, h.hg.andThen hgr (fun j e => .inl (by have := (hr j e).1; omega))⟩

set_option maxRecDepth 100000 in
set_option maxHeartbeats 2000000 in
theorem put_in (F : Fence) (m : Nat) (h1 : F.fn 36) (h2 : F.fn 45) (h3 : F.fn 48) (hro : F.round = none) (hm : 3 ≤ m) (g o n cap x : Nat) (hn : n ≤ 1000) (hx : x < 18446744073709551616) (l : List UInt8) (t : TypeId) (w : World)
    (hr : w.heap[g]? = some (.cells (l.map cu8).toArray t (0, 0))) (hf : o + n ≤ l.length) :
    CallsIn F m Try.prog 36 #[.slice (some ⟨g, o, none⟩) n cap, .int .u64 (x : Int)] w (PutP w g t (putL l o n x)) := by
  have hm1 : 1 ≤ m := by omega
  have hgl : g < w.heap.size := (Array.getElem?_eq_some_iff.1 hr).1
  refine callsIn_of_wp_marks Try.func36 rfl h1 ?_ hro
  simp only [Try.ntmps36, List.size_toArray, List.length_cons, List.length_nil, Nat.reduceAdd, Nat.reduceSub, Array.replicate_succ, Array.replicate_zero, List.push_toArray, List.append_toArray, List.nil_append, List.cons_append]
  gi_wp2_with (gi_at_call 45; refine (backward_in F (m - 1) h2 hro _ _ _ _).mono ?_; rintro e w' ⟨rfl, rfl⟩)
  have g1 : w.grownBy (((w.alloc (.cells #[.slice (some ⟨g, o, none⟩) n cap] 23)).alloc (.cells #[.int .u64 (x : Int)] 24)).alloc (.cells #[.slice (some ⟨g, o, none⟩) n cap] 23)) (some g) :=
    ((World.grownBy_alloc w _ _).trans (World.grownBy_alloc _ _ _)).trans (World.grownBy_alloc _ _ _)
  have b1 := ((Boxed.new w 23 (.slice (some ⟨g, o, none⟩) n cap)).alloc (.cells #[.int .u64 (x : Int)] 24)).alloc (.cells #[.slice (some ⟨g, o, none⟩) n cap] 23)
  have b2 := (Boxed.new (w.alloc (.cells #[.slice (some ⟨g, o, none⟩) n cap] 23)) 24 (.int .u64 (x : Int))).alloc (.cells #[.slice (some ⟨g, o, none⟩) n cap] 23)
  have b3 := Boxed.new ((w.alloc (.cells #[.slice (some ⟨g, o, none⟩) n cap] 23)).alloc (.cells #[.int .u64 (x : Int)] 24)) 23 (.slice (some ⟨g, o, none⟩) n cap)
  have hsz : (((w.alloc (.cells #[.slice (some ⟨g, o, none⟩) n cap] 23)).alloc (.cells #[.int .u64 (x : Int)] 24)).alloc (.cells #[.slice (some ⟨g, o, none⟩) n cap] 23)).heap.size = w.heap.size + 3 := by simp
  have hr0 : (((w.alloc (.cells #[.slice (some ⟨g, o, none⟩) n cap] 23)).alloc (.cells #[.int .u64 (x : Int)] 24)).alloc (.cells #[.slice (some ⟨g, o, none⟩) n cap] 23)).heap[g]? = some (.cells (l.map cu8).toArray t (0, 0)) := by
    rw [Below.heap_alloc _ _ _ (by simp; omega), Below.heap_alloc _ _ _ (by simp; omega), Below.heap_alloc _ _ _ hgl]; exact hr
  simp only [World.size_alloc] at b2 b3
  generalize (((w.alloc (.cells #[.slice (some ⟨g, o, none⟩) n cap] 23)).alloc (.cells #[.int .u64 (x : Int)] 24)).alloc (.cells #[.slice (some ⟨g, o, none⟩) n cap] 23)) = W0 at g1 b1 b2 b3 hsz hr0 ⊢
  have HSZ := Lib.hid hsz
  refine wpIn_rangeFunc_ownG hro hm1 (gf := 48) (lb := #[.pointer (some ⟨w.heap.size + 1 + 1, 0, none⟩)]) rfl h3 (enters_of Try.func48 (by kernel_rfl) rfl)
    (backward_stops F (m - 1) h3 hro (by omega) (w.heap.size + 1 + 1) g o n cap hn W0 (by omega) (by omega) b3.cell (CellsB.of_row hr0 hf)) putK_t (putKb (by omega) (by omega)) (Below.refl _ _) (fun _ => rfl)
    (fun pre W => PutI w g o n cap t (putF o l x (pre.map fun x => x.1.1)) W)
    (fun _ _ _ => False)
    (putI_own hsz hgl)
    (fun _ _ _ _ _ hs _ _ => hs)
    ⟨b1, b2, hr0, g1⟩
    (fun y => { tmps := #[.slice (some ⟨g, o, none⟩) n cap, .int .u64 (x : Int), .pointer (some ⟨w.heap.size, 0, none⟩), .pointer (some ⟨w.heap.size + 1, 0, none⟩), .int .i64 (y.1.1 : Int), .slice (some ⟨g, o, none⟩) n cap, .func (.func 48) #[] #[.pointer (some ⟨w.heap.size + 1 + 1, 0, none⟩)], .int .i64 (y.1.1 : Int), .int .u8 (bz y.1.2), undef, undef, undef, undef, undef, undef, undef], defers := [] }) ?assign ?body ?done ?stop
  case assign =>
    intro l x W K hK
    dsimp only [putEnc]
    gi_wp2
    exact hK
  case body =>
    rintro l' pre y W hI _
    obtain ⟨⟨i, c⟩, hi⟩ := y
    have hi' : i < n := hi
    have HI := Lib.hid hI
    have hlen := putF_length o l x (pre.map fun x => x.1.1)
    have HS := Lib.hid (putF_snoc o l x (pre.map fun x => x.1.1) i)
    generalize hs : putF o l x (pre.map fun x => x.1.1) = s at *
    obtain ⟨lx, X⟩ := s
    simp only at hlen
    have hbc := HI.out.hb.cell
    have hxc := HI.out.hx.cell
    have hxf := HI.out.hx.frozen
    have hrc := row_cell HI.out.hr (i := o + i) (by simp only; omega)
    have hrf := row_free HI.out.hr (i := o + i)
    have hlow := low_byte X
    have hlt : (i : Int) < n := by omega
    have HL := Lib.hid (show o + n ≤ (lx.set (o + i) (UInt8.ofNat (X % 256))).length by rw [List.length_set, hlen]; exact hf)
    have HX : Hid (((X / 256 : Nat) : Int) = (X : Int) / 256) := Lib.hid (by omega)
    clear hI hr0 hr hf hx hs hlen
    simp only at hbc hxc hrc
    gi_wp2
    have hI2 := HI.out.set (i := i) hgl
    simp only at hI2
    rw [HX.out] at hI2
    have k1 := grown_set W g (o + i) (.int .u8 (bz (UInt8.ofNat (X % 256))))
    have k2 := grown_set (W.setCell ⟨g, o + i, none⟩ (.int .u8 (bz (UInt8.ofNat (X % 256))))) (w.heap.size + 1) 0 (.int .u64 ((X : Int) / 256))
    have hsW := HI.out.hg.size
    have hlt3 : w.heap.size + 1 < W.heap.size := HI.out.hx.lt
    refine ⟨((KeepsOthers.setCell _ _ _).trans (KeepsOthers.setCell _ _ _)).from _, ⟨?_, fun _ => CellsB.of_row hI2.hr HL.out⟩, ?_⟩
    · rw [World.cell?_setCell_other _ _ _ _ (by intro e; injection e with e1; omega), World.cell?_setCell_other _ _ _ _ (by intro e; injection e with e1; omega)]
    · show PutI w g o n cap t (putF o l x (List.map (fun x => x.val.fst) (pre ++ [(⟨(i, c), hi⟩ : PutE n)]))) _
      rw [List.map_append]
      exact HS.out ▸ hI2
  case done =>
    rintro D ys W hD hS hI hK
    rw [hS] at hI
    gi_wp2
    refine ⟨by simp, .inl ⟨_, _, rfl, run_takeDeferred hK, ?_⟩⟩
    have k1 := grownBy_putObj' W D (.deferred none)
    have hD' : w.heap.size + 3 ≤ D := by rw [← HSZ.out]; exact hD
    refine ⟨_, results_none rfl _ _ _, rfl, hI.hg.andThen k1 (fun j e => by cases e; exact .inl (by omega)), ?_⟩
    rw [k1.block g (by have := hI.hg.size; omega) (by simp; omega), hI.hr, putF_all o l x n hf]
  case stop =>
    rintro D c pre W _ _ h _
    exact h.elim
theorem put_any (g o n cap x : Nat) (hn : n ≤ 1000) (hx : x < 18446744073709551616) (l : List UInt8) (t : TypeId) (w : World)
    (hr : w.heap[g]? = some (.cells (l.map cu8).toArray t (0, 0))) (hf : o + n ≤ l.length) :
    Calls Try.prog 36 #[.slice (some ⟨g, o, none⟩) n cap, .int .u64 (x : Int)] w (PutP w g t (putL l o n x)) :=
  callsIn_wide.1 (put_in Fence.wide 3 trivial trivial trivial rfl (by omega) g o n cap x hn hx l t w hr hf)
end Go.Proofs.Ytakejggofghblaa
