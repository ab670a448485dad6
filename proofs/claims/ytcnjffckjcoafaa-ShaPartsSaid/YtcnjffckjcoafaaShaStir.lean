/-
  A block is stirred in: the walk of 'stir'.
-/
import Derived.Test.YtcnjffckjcoafaaShaStretch
import Derived.Test.YtcnjffckjcoafaaShaRows
import Derived.Deep.RegionLaw
namespace Go.Proofs.Ytcnjffckjcoafaa
open Go.RowKit Sh
attribute [local go_sem] Sh.or32 Sh.xor32 Sh.add32 Sh.add32' Sh.xor32_3 Sh.xor32_10 Sh.and32 Sh.not32'

/-- The row of eight. -/
def vRow (s : S8) (i : Nat) : Value := cu32 (at32 s.list i)

theorem stretch_agg (p : List UInt8) (hp : p.length = 64) (pv : Array Value) (Hp : Hid (pv = (p.map cu8).toArray)) (w : World) :
    Calls Try.prog 21 #[.agg pv] w (AggPost (fun r => r = ((sched p 64).map cu32).toArray) w) := by
  rw [Hp.out]
  exact (stretch_any p hp w).mono fun _ _ h => .of_eq h rfl
theorem words_agg (w : World) :
    Calls Try.prog 22 #[] w (AggPost (fun r => r = (kTab.map cu32).toArray) w) :=
  (roundWords_any w).mono fun _ _ h => .of_eq h rfl

/-- The world of 'stir': the box of the state, the result's, the numbers' row, the eight. -/
structure SrW (w : World) (bw : Nat) (p : List UInt8) (sv : Array Value) (v : Nat → Value) (wr : World) : Prop where
  below : Below w.heap.size w wr
  far : w.heap.size + 3 ≤ bw
  box : wr.heap[w.heap.size]? = some (.cells sv 40 (0, 0))
  res : ∃ c : Array Value, wr.heap[w.heap.size + 1 + 1]? = some (.cells c 40 (0, 0)) ∧ c.size = 8
  ws : wr.rowIs bw 51 64 (wRow (sched p 64))
  v : wr.rowIs (bw + 1) 40 8 v

theorem SrW.drewN {w wr : World} {bw : Nat} {p : List UInt8} {sv : Array Value} {v : Nat → Value} (h : SrW w bw p sv v wr) (n : Nat) : SrW w bw p sv v (wr.drewN n) :=
  ⟨h.below.trans ⟨rfl, rfl, rfl, Nat.le_refl _, fun _ _ => rfl⟩, h.far, h.box, h.res, h.ws, h.v⟩

/-- What only the eight's own block turns. -/
theorem SrW.turn {w wr wn : World} {bw : Nat} {p : List UInt8} {sv : Array Value} {v v' : Nat → Value} (h : SrW w bw p sv v wr) (hb : Below (bw + 1) wr wn) (hv : wn.rowIs (bw + 1) 40 8 v') : SrW w bw p sv v' wn :=
  ⟨h.below.trans (hb.mono (by have := h.far; omega)), h.far, by rw [hb.block _ (by have := h.far; omega)]; exact h.box,
    by obtain ⟨c, hc, hn⟩ := h.res; exact ⟨c, by rw [hb.block _ (by have := h.far; omega)]; exact hc, hn⟩,
    h.ws.of_block (hb.block _ (by omega)), hv⟩

theorem SrW.set {w wr : World} {bw : Nat} {p : List UInt8} {sv : Array Value} {v : Nat → Value} (h : SrW w bw p sv v wr) (i : Nat) (x : Value) : SrW w bw p sv (fun j => if j = i then x else v j) (wr.setCell ⟨bw + 1, i, none⟩ x) :=
  h.turn ((Below.refl (bw + 1) wr).setCell (p := ⟨bw + 1, i, none⟩) (Nat.le_refl _) x) (h.v.set i x)
theorem SrW.congr {w wr : World} {bw : Nat} {p : List UInt8} {sv : Array Value} {v v' : Nat → Value} (h : SrW w bw p sv v wr) (e : ∀ j, j < 8 → v j = v' j) : SrW w bw p sv v' wr :=
  ⟨h.below, h.far, h.box, h.res, h.ws, h.v.congr e⟩

/-- The eight behind i of the last sums. -/
def sumRow (t s : S8) (i : Nat) (j : Nat) : Value := cu32 (if j < i then at32 t.list j + at32 s.list j else at32 t.list j)
theorem sumRow_end (t s : S8) : ∀ j, j < 8 → sumRow t s 8 j = wRow (addS t s).list j := fun j hj => by
  unfold sumRow wRow
  rw [if_pos hj]
  obtain rfl | rfl | rfl | rfl | rfl | rfl | rfl | rfl : j = 0 ∨ j = 1 ∨ j = 2 ∨ j = 3 ∨ j = 4 ∨ j = 5 ∨ j = 6 ∨ j = 7 := by omega
  all_goals rfl

theorem SrW.round {w wr : World} {bw : Nat} {p : List UInt8} {sv : Array Value} {a b c d e f g : UInt32} (hS : SrW w bw p sv (wRow [a, a, b, c, d, e, f, g]) wr) (x y : UInt32) (s : S8)
    (hs : s.list = [y, a, b, c, x, e, f, g]) : SrW w bw p sv (wRow s.list) ((wr.setCell ⟨bw + 1, 4, none⟩ (.int .u32 (uz x))).setCell ⟨bw + 1, 0, none⟩ (.int .u32 (uz y))) := by
  refine ((hS.set 4 _).set 0 _).congr (fun j hj => ?_)
  rw [hs]
  obtain rfl | rfl | rfl | rfl | rfl | rfl | rfl | rfl : j = 0 ∨ j = 1 ∨ j = 2 ∨ j = 3 ∨ j = 4 ∨ j = 5 ∨ j = 6 ∨ j = 7 := by omega
  all_goals rfl

theorem rowIs_row {w : World} {b : Nat} {t : TypeId} (l : List UInt32) (n : Nat) (hn : l.length = n) (h : w.heap[b]? = some (.cells (l.map cu32).toArray t (0, 0))) : w.rowIs b t n (wRow l) :=
  ⟨_, h, by simp [hn], fun i hi => by
    have hi' : i < l.length := by omega
    simp [wRow, at32, List.getD_eq_getElem?_getD, List.getElem?_eq_getElem hi']⟩

theorem eight_src {w : World} {b : Nat} {t : TypeId} {a0 a1 a2 a3 a4 a5 a6 a7 : UInt32} (h : w.heap[b]? = some (.cells ([a0, a1, a2, a3, a4, a5, a6, a7].map cu32).toArray t (0, 0))) :
    ∀ j v, [cu32 a0, cu32 a1, cu32 a2, cu32 a3, cu32 a4, cu32 a5, cu32 a6][j]? = some v → w.drew.cell? ((⟨b, 0, none⟩ : Addr).add j) = some v := fun j v hv => by
  have hadd : (⟨b, 0, none⟩ : Addr).add j = ⟨b, j, none⟩ := by unfold Addr.add; split <;> simp_all
  rw [hadd, cell_of_row w.drew b j _ t (0, 0) h]
  have hj : j < 7 := by
    rcases Nat.lt_or_ge j 7 with h7 | h7
    · exact h7
    · rw [List.getElem?_eq_none (by simpa using h7)] at hv; cases hv
  rw [List.getElem?_toArray, List.getElem?_map, ← hv]
  obtain rfl | rfl | rfl | rfl | rfl | rfl | rfl : j = 0 ∨ j = 1 ∨ j = 2 ∨ j = 3 ∨ j = 4 ∨ j = 5 ∨ j = 6 := by omega
  all_goals rfl
theorem eight_one (a0 a1 a2 a3 a4 a5 a6 : UInt32) : ∀ v ∈ [cu32 a0, cu32 a1, cu32 a2, cu32 a3, cu32 a4, cu32 a5, cu32 a6], v.oneCell' = true := fun v hv => by
  simp only [List.mem_cons, List.not_mem_nil, or_false] at hv
  rcases hv with rfl | rfl | rfl | rfl | rfl | rfl | rfl <;> rfl

set_option maxRecDepth 100000 in
set_option maxHeartbeats 1600000 in
theorem stir_agg (s : S8) (p : List UInt8) (hp : p.length = 64) (sv pv : Array Value) (Hs : Hid (sv = s32 s)) (Hp : Hid (pv = (p.map cu8).toArray)) (w : World) :
    Calls Try.prog 16 #[.agg sv, .agg pv] w (AggPost (fun r => r = s32 (comp s p)) w) := by
  have Hn : Hid (pv.size = 64) := by rw [Hp.out]; exact (by rw [List.size_toArray, List.length_map, hp] : (p.map cu8).toArray.size = 64)
  have Hm : Hid (sv.size = 8) := by rw [Hs.out]; exact (rfl : (s32 s).size = 8)
  have Hl := Lib.hid hp; clear hp
  go_enter Try.func16, Try.ntmps16
  have Hz : Hid (∀ l : List UInt32, ((l.map cu32).toArray.all fun v => v.oneCell') = true) := fun l => all_oneCell_toArray (fun v hv => by obtain ⟨x, _, rfl⟩ := List.mem_map.1 hv; rfl)
  have He : Hid (∀ p : List UInt8, ((sched p 64).map cu32).toArray.size = 64) := fun p => by rw [List.size_toArray, List.length_map, sched_length]
  go_wp2_with (first
    | (refine wpList_load_row rfl 42 _ rfl (w.heap.size + 1) rfl 42 pv (0, 0) _ ?h1 Try.underlying42 rfl ?h2 ?_)
    | (go_at_call 21; refine (stretch_agg p Hl.out pv Hp _).mono ?_; rintro e w1 ⟨wv, Hw, rfl, hb1⟩)
    | (refine wpList_store_new rfl 51 _ _ rfl w1.heap.size rfl wv rfl rfl 51 _ ?h3 ?h4 ?h5 ?_)
    | (refine wpList_load_row rfl 40 _ rfl w.heap.size rfl 40 sv (0, 0) _ ?h6 Try.underlying40 rfl ?h7 ?_)
    | (refine wpList_store_new rfl 40 _ _ rfl (w1.heap.size + 1) (World.size_alloc _ _) sv rfl rfl 40 _ ?h8 ?h9 ?h10 ?_)
    | (go_at_call 22; refine (words_agg _).mono ?_; rintro e w2 ⟨kv, Hk, rfl, hb2⟩))
  case h2 => rw [Hn.out]; kernel_rfl
  case h1 => rw [Below.heap_alloc _ _ _ (by simp)]; simpa using heap_alloc_new (w.alloc (.cells sv 40)) (.cells pv 42)
  case h3 => rw [Hw.out, He.out]; kernel_rfl
  case h4 => rw [Hw.out, He.out]; kernel_rfl
  case h5 => rw [Hw.out]; exact Hz.out _
  case h6 =>
    rw [Below.heap_alloc _ _ _ (by have := hb1.size; simp at this; omega), hb1.block _ (by simp; omega), Below.heap_alloc _ _ _ (by simp; omega), Below.heap_alloc _ _ _ (by simp)]
    exact heap_alloc_new _ _
  case h7 => rw [Hm.out]; kernel_rfl
  case h8 => rw [Hm.out]; kernel_rfl
  case h9 => rw [Hm.out]; kernel_rfl
  case h10 => rw [Hs.out]; kernel_rfl
  have hS : SrW w w1.heap.size p sv (wRow s.list) w2 := by
    have z1 := hb1.size
    have z2 := hb2.size
    simp at z1 z2
    have hold : ∀ k, k < w1.heap.size → w2.heap[k]? = w1.heap[k]? := fun k hk => by
      rw [hb2.block k (by simp; omega), Below.heap_alloc _ _ _ (by simp; omega), Below.heap_alloc _ _ _ hk]
    have hbel : Below w.heap.size w w2 := by
      have a1 : Below w.heap.size w (((w.alloc (.cells sv 40)).alloc (.cells pv 42)).alloc (.cells #[Value.int .u32 0, Value.int .u32 0, Value.int .u32 0, Value.int .u32 0, Value.int .u32 0, Value.int .u32 0, Value.int .u32 0, Value.int .u32 0] 40)) :=
        (((Below.refl _ _).alloc (Nat.le_refl _) _).alloc (by simp) _).alloc (by simp; omega) _
      exact (((a1.trans (hb1.mono (by simp; omega))).alloc (by omega) _).alloc (by simp; omega) _).trans (hb2.mono (by simp; omega))
    refine ⟨hbel, by omega, ?_, ⟨#[Value.int .u32 0, Value.int .u32 0, Value.int .u32 0, Value.int .u32 0, Value.int .u32 0, Value.int .u32 0, Value.int .u32 0, Value.int .u32 0], ?_, rfl⟩, ?_, ?_⟩
    · rw [hold _ (by omega), hb1.block _ (by simp; omega), Below.heap_alloc _ _ _ (by simp; omega), Below.heap_alloc _ _ _ (by simp)]
      exact heap_alloc_new _ _
    · rw [hold _ (by omega), hb1.block _ (by simp)]
      have := heap_alloc_new ((w.alloc (.cells sv 40)).alloc (.cells pv 42)) (.cells #[Value.int .u32 0, Value.int .u32 0, Value.int .u32 0, Value.int .u32 0, Value.int .u32 0, Value.int .u32 0, Value.int .u32 0, Value.int .u32 0] 40)
      simpa using this
    · refine rowIs_row _ 64 (sched_length p 64) ?_
      rw [hb2.block _ (by simp; omega), Below.heap_alloc _ _ _ (by simp), ← Hw.out]
      exact heap_alloc_new _ _
    · refine rowIs_row s.list 8 rfl ?_
      rw [hb2.block _ (by simp)]
      have := heap_alloc_new (w1.alloc (.cells wv 51)) (.cells sv 40)
      rw [World.size_alloc, Hs.out] at this
      rw [Hs.out]
      exact this
  clear hb1 hb2 Hw Hl Hz He
  generalize w1.heap.size = bw at hS ⊢
  go_loopg [24] 64 (fun g i wr => ∃ k : Nat, k ≤ 64 ∧ g = 64 - k ∧ i = .int .i64 k ∧ SrW w bw p sv (wRow (rnds s p k).list) wr)
  case atStart => exact ⟨0, by omega, rfl, rfl, hS⟩
  case round =>
    clear hS
    obtain ⟨k, hk, rfl, rfl, hS⟩ := hrel
    by_cases hlt : k < 64
    · have hlt' : (k : Int) < 64 := by omega
      have hix : ∀ w : World, (Instr.index 51 (.agg kv) (.int .i64 (k : Int))).run Try.prog w = .ok (.int .u32 (uz (at32 kTab k))) w :=
        run_index_row _ _ 64 Try.underlying51 Try.underlying39 (by kernel_rfl) kv k hlt _ (by
          rw [Hk.out]
          have hk' : k < kTab.length := hlt
          simp [at32, List.getD_eq_getElem?_getD, List.getElem?_eq_getElem hk', cu32])
      generalize hT : rnds s p k = T at hS
      have HT := Lib.hid hT; clear hT
      obtain ⟨a, b, c, d, e, f, g, h8⟩ := T
      have c0 : wr.cell? ⟨bw + 1, 0, none⟩ = some (.int .u32 (uz a)) := hS.v.cell (by omega)
      have c1 : wr.cell? ⟨bw + 1, 1, none⟩ = some (.int .u32 (uz b)) := hS.v.cell (by omega)
      have c2 : wr.cell? ⟨bw + 1, 2, none⟩ = some (.int .u32 (uz c)) := hS.v.cell (by omega)
      have c3 : wr.cell? ⟨bw + 1, 3, none⟩ = some (.int .u32 (uz d)) := hS.v.cell (by omega)
      have c4 : wr.cell? ⟨bw + 1, 4, none⟩ = some (.int .u32 (uz e)) := hS.v.cell (by omega)
      have c5 : wr.cell? ⟨bw + 1, 5, none⟩ = some (.int .u32 (uz f)) := hS.v.cell (by omega)
      have c6 : wr.cell? ⟨bw + 1, 6, none⟩ = some (.int .u32 (uz g)) := hS.v.cell (by omega)
      have c7 : wr.cell? ⟨bw + 1, 7, none⟩ = some (.int .u32 (uz h8)) := hS.v.cell (by omega)
      go_wp2_with fail
      go_quiet (fail)
      go_wp2_with fail
      go_quiet (fail)
      go_wp2_with fail
      refine (?_ : ∀ w2 : World, SrW w bw p sv _ w2 → Code.wp _ _ _ _ w2) _ ((hS.drewN _).drewN _)
      clear hS c0 c1 c2 c3 c4 c5 c6 c7
      intro w2 hS
      have cw : w2.cell? ⟨bw, k, none⟩ = some (.int .u32 (uz (at32 (sched p 64) k))) := hS.ws.cell hlt
      go_quiet ((go_at_call 23; exact Calls.quiet_of (turn_any _ _ _ (by omega) (by omega))))
      clear cw
      go_wp2_with (go_at_call 23; refine (turn_any _ _ _ (by omega) (by omega)).mono ?_; rintro e w' ⟨rfl, m, rfl⟩)
      refine (?_ : ∀ w2 : World, SrW w bw p sv _ w2 → Code.wp _ _ _ _ w2) _ (hS.drewN _)
      clear hS
      intro w2 hS
      rw [Sh.emod4]
      have HV : Hid (w2.heap[bw + 1]? = some (.cells ([a, b, c, d, e, f, g, h8].map cu32).toArray 40 (0, 0))) := (rowIs_eq hS.v).trans (by rfl)
      have HC := Lib.hid (eight_src HV.out)
      go_region_law (refine step_copy_splice rfl (.tmp 87) (.tmp 88) 55 55 rfl 39 Try.underlying55 (by kernel_rfl) (some ⟨bw + 1, 1, none⟩) (some ⟨bw + 1, 0, none⟩) 7 7 7 8 rfl rfl (bw + 1) 1 [cu32 a, cu32 b, cu32 c, cu32 d, cu32 e, cu32 f, cu32 g, cu32 h8] 40 HV.out [cu32 a, cu32 b, cu32 c, cu32 d, cu32 e, cu32 f, cu32 g] rfl (fun _ => ⟨rfl, _, rfl, HC.out⟩) (Nat.le_refl 8) (eight_one a b c d e f g) (bw + 1) _ (Below.refl _ _) (Nat.le_refl _) ?_; intro w3 hg3 hb3)
      have hg3' : w3.heap[bw + 1]? = some (.cells ([a, a, b, c, d, e, f, g].map cu32).toArray 40 (0, 0)) := hg3.out
      have hr3 := rowIs_row [a, a, b, c, d, e, f, g] 8 rfl hg3'
      have hS3 : SrW w bw p sv (wRow [a, a, b, c, d, e, f, g]) w3 := (hS.drewN 1).turn hb3 hr3
      clear hg3 hg3' HV HC hb3 hS hr3
      have d0 : w3.cell? ⟨bw + 1, 0, none⟩ = some (.int .u32 (uz a)) := hS3.v.cell (by omega)
      have d4 : w3.cell? ⟨bw + 1, 4, none⟩ = some (.int .u32 (uz d)) := hS3.v.cell (by omega)
      have f0 : w3.frozen? ⟨bw + 1, 0, none⟩ = false := hS3.v.frozen 0
      have f4 : w3.frozen? ⟨bw + 1, 4, none⟩ = false := hS3.v.frozen 4
      go_wp2
      go_roundg (64 - (k + 1))
      case measure => omega
      case rel =>
        refine ⟨k + 1, by omega, rfl, by go_num, ?_⟩
        have HT' : (rnds s p (k + 1)).list = [rndP ⟨a, b, c, d, e, f, g, h8⟩ (at32 kTab k) (at32 (sched p 64) k) + rndQ ⟨a, b, c, d, e, f, g, h8⟩, a, b, c, d + rndP ⟨a, b, c, d, e, f, g, h8⟩ (at32 kTab k) (at32 (sched p 64) k), e, f, g] := by
          show (rnd (rnds s p k) (at32 kTab k) (at32 (sched p 64) k)).list = _
          rw [HT.out]; rfl
        exact hS3.round _ _ _ HT'
    · obtain rfl : k = 64 := by omega
      clear hlt hk Hk
      have HB := Lib.hid hS.box
      go_wp2_with (refine wpList_load_row rfl 40 _ rfl w.heap.size rfl 40 sv (0, 0) _ HB.out Try.underlying40 rfl ?hz ?_)
      case hz => rw [Hm.out]; kernel_rfl
      have hS2 : SrW w bw p sv (sumRow (rnds s p 64) s 0) wr := hS.congr (fun j hj => by simp [sumRow, wRow])
      clear HB hS
      have HE : Hid (((addS (rnds s p 64) s).list.map cu32).toArray = s32 (comp s p)) := rfl
      generalize rnds s p 64 = T at hS2 HE
      go_loopg [101] 8 (fun g i wr => ∃ k : Nat, k ≤ 8 ∧ g = 8 - k ∧ i = .int .i64 k ∧ SrW w bw p sv (sumRow T s k) wr)
      case atStart => exact ⟨0, by omega, rfl, rfl, hS2⟩
      case round =>
        clear hS2
        obtain ⟨k, hk, rfl, rfl, hS⟩ := hrel
        by_cases hlt : k < 8
        · have hlt' : (k : Int) < 8 := by omega
          have hix : ∀ w : World, (Instr.index 40 (.agg sv) (.int .i64 (k : Int))).run Try.prog w = .ok (.int .u32 (uz (at32 s.list k))) w :=
            run_index_row _ _ 8 Try.underlying40 Try.underlying39 (by kernel_rfl) sv k hlt _ (by
              rw [Hs.out]
              have hk' : k < s.list.length := hlt
              simp [s32, at32, List.getD_eq_getElem?_getD, List.getElem?_eq_getElem hk', cu32])
          have d0 : wr.cell? ⟨bw + 1, k, none⟩ = some (.int .u32 (uz (at32 T.list k))) := by
            rw [hS.v.cell hlt, sumRow, if_neg (Nat.lt_irrefl k)]; rfl
          have f0 : wr.frozen? ⟨bw + 1, k, none⟩ = false := hS.v.frozen k
          go_wp2
          go_roundg (8 - (k + 1))
          case measure => omega
          case rel =>
            refine ⟨k + 1, by omega, rfl, by go_num, (hS.set k _).congr (fun j hj => ?_)⟩
            show (if j = k then cu32 (at32 T.list k + at32 s.list k) else sumRow T s k j) = sumRow T s (k + 1) j
            unfold sumRow
            by_cases e : j = k
            · subst e; rw [if_pos rfl, if_pos (by omega)]
            · rw [if_neg e]
              by_cases hj2 : j < k
              · rw [if_pos hj2, if_pos (by omega)]
              · rw [if_neg hj2, if_neg (by omega)]
        · obtain rfl : k = 8 := by omega
          have HR := rowIs_eq (hS.v.congr (sumRow_end T s))
          rw [list_eq_range (addS T s).list 8 rfl] at HR
          obtain ⟨c, hc, hn⟩ := hS.res
          have H1 := Lib.hid HR; clear HR
          have H2 := Lib.hid hc; clear hc
          have H3 := Lib.hid hn; clear hn
          have hb := hS.below
          have hf := hS.far
          clear hS hk hlt
          go_wp2_with (first | (refine wpList_load_row rfl 40 _ rfl (bw + 1) rfl 40 _ (0, 0) _ H1.out Try.underlying40 rfl (by kernel_rfl) ?_) | (refine wpList_store_row rfl 40 _ _ rfl (w.heap.size + 1 + 1) _ rfl rfl 40 c H2.out (by kernel_rfl) H3.out ?_ ?_))
          · exact all_oneCell_toArray (fun v hv => by obtain ⟨x, _, rfl⟩ := List.mem_map.1 hv; rfl)
          · refine bodyPost_ret (v := .agg ((addS T s).list.map cu32).toArray) ?_ rfl ⟨_, HE.out, rfl, below_setRow hb (by omega) _⟩
            exact results_cell_row (ty := 40) rfl _ _ (w.heap.size + 1 + 1) 40 _ (0, 0) _ rfl (setRow_heap _ _ _ _ _ _ H2.out) Try.underlying40 rfl (by kernel_rfl)
end Go.Proofs.Ytcnjffckjcoafaa
