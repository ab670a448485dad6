/-
  The reference's function on a block: the walk of 'round'.
-/
import Derived.Test.YtegdlpllljccgaaDoorJSha
import Derived.Deep.RegionLaw
import Derived.Deep.RegionHeld3
import Derived.Deep.AppendLies
set_option linter.unusedSimpArgs false
set_option linter.unusedVariables false
namespace Go.Proofs.YtegdlpllljccgaaDoor
open Go.RowKit Sh
attribute [local go_sem] Sh.xor64 Sh.xor64_3 Sh.xor64_10 Sh.and64 Sh.not64 Sh.sum2 Sh.sum3 Sh.sum4 Sh.sum5 Sh.mod2 Sh.mod4 Sh.mod5 Sh.emod2 Sh.emod4 Sh.emod5 Sh.convb64 Sh.be4a Sh.be4b Sh.be4c Sh.be4d Sh.be4e Sh.be4f

theorem Tryd.infoU64 : (Tryd.prog.info? 22).map (fun i => (i.zero, i.size, i.bytes)) = some (some (.int .u64 0), 1, 8) := by kernel_rfl
theorem rturn_q (x : UInt32) (n : Int) (w : World) (m : Nat) (h0 : 0 < n) (h1 : n < 32) :
    Calls Tryd.prog 81 #[.int .u64 (uz x), .int .u64 n] (w.drewN m) fun e w' => e = .returned (.int .u64 (uz (rot x n.toNat))) ∧ w' = w.drewN m :=
  (rturn_any x n _ h0 h1).mono fun _ _ h => ⟨h.1, h.2.symm⟩

/-- The world of 'round' when the first k numbers are told. -/
structure RdW (w : World) (p : List UInt8) (k : Nat) (v : Value) (wr : World) : Prop where
  below : Below w.heap.size w wr
  own : wr.ownsRow w.heap.size 22 1 v k ((sched p k).map cu64)

theorem RdW.drewN {w wr : World} {p : List UInt8} {k : Nat} {v : Value} (h : RdW w p k v wr) (n : Nat) : RdW w p k v (wr.drewN n) :=
  ⟨h.below.trans ⟨rfl, rfl, rfl, Nat.le_refl _, fun _ _ => rfl⟩, h.own⟩

theorem RdW.far {w wr : World} {p : List UInt8} {k : Nat} {v : Value} (h : RdW w p k v wr) {g : Nat} (hg : g < w.heap.size) : v.ownBlock ≠ some g := by
  intro e
  rcases h.own.2 with ⟨rfl, _⟩ | ⟨g', cap, cur, rfl, hb, _⟩
  · simp [Value.ownBlock] at e
  · simp [Value.ownBlock] at e; omega

theorem RdW.push {w wr w1 : World} {p : List UInt8} {k : Nat} {v : Value} (h : RdW w p k v wr) (ob : Obj) (n : Nat) {g cap : Nat} {x : UInt32} (hx : sched p (k + 1) = sched p k ++ [x])
    (hown : w1.ownsRow w.heap.size 22 1 (.slice (some ⟨g, 0, none⟩) (k + 1) cap) (k + 1) ((sched p k).map cu64 ++ [.int .u64 (uz x)]))
    (hgrow : ((wr.alloc ob).drewN n).grownBy w1 v.ownBlock) : RdW w p (k + 1) (.slice (some ⟨g, 0, none⟩) (k + 1) cap) w1 := by
  have hb : Below w.heap.size w ((wr.alloc ob).drewN n) := (h.below.alloc h.below.size ob).trans ⟨rfl, rfl, rfl, Nat.le_refl _, fun _ _ => rfl⟩
  refine ⟨hb.grown hgrow hb.size ?_, ?_⟩
  · intro j hj
    rcases h.own.2 with ⟨rfl, _⟩ | ⟨g', cap', cur, rfl, hb', _⟩
    · simp [Value.ownBlock] at hj
    · simp [Value.ownBlock] at hj; omega
  · rw [hx, List.map_append]; exact hown

/-- The row of eight numbers of 64 bits. -/
def wRow64 (l : List UInt32) (i : Nat) : Value := cu64 (at32 l i)

/-- A call that hands back eight numbers in a new slice. -/
def EightPost (l : List UInt32) (w : World) (e : Ending) (w' : World) : Prop :=
  ∃ g, e = .returned (.slice (some ⟨g, 0, none⟩) 8 8) ∧ w.heap.size ≤ g ∧ w'.rowIs g 22 8 (wRow64 l) ∧ Below w.heap.size w w'

/-- The world of the rounds: the numbers, the words, the state. -/
structure Rd2 (w : World) (p : List UInt8) (s : S8) (gw gk gh oh : Nat) (wr : World) : Prop where
  below : Below w.heap.size w wr
  num : ∀ j, j < 64 → wr.cell? ⟨gw, j, none⟩ = some (.int .u64 (uz (at32 (sched p 64) j)))
  word : ∀ j, j < 64 → wr.cell? ⟨gk, j, none⟩ = some (.int .u64 (uz (at32 kTab j)))
  old : ∀ j, j < 8 → wr.cell? ⟨gh, oh + j, none⟩ = some (.int .u64 (uz (at32 s.list j)))
theorem Rd2.drewN {w wr : World} {p : List UInt8} {s : S8} {gw gk gh oh : Nat} (h : Rd2 w p s gw gk gh oh wr) (n : Nat) : Rd2 w p s gw gk gh oh (wr.drewN n) :=
  ⟨h.below.trans ⟨rfl, rfl, rfl, Nat.le_refl _, fun _ _ => rfl⟩, h.num, h.word, h.old⟩

/-- .. and with the eight sums under way. -/
structure Rd3 (w : World) (s : S8) (gh oh gv : Nat) (v : Nat → Value) (wr : World) : Prop where
  below : Below w.heap.size w wr
  far : w.heap.size ≤ gv
  hfar : gh < w.heap.size
  old : ∀ j, j < 8 → wr.cell? ⟨gh, oh + j, none⟩ = some (.int .u64 (uz (at32 s.list j)))
  row : wr.rowIs gv 22 8 v
def sumRow64 (t s : S8) (i : Nat) (j : Nat) : Value := cu64 (if j < i then at32 t.list j + at32 s.list j else at32 t.list j)
theorem sumRow64_end (t s : S8) : ∀ j, j < 8 → sumRow64 t s 8 j = wRow64 (addS t s).list j := fun j hj => by
  unfold sumRow64 wRow64
  rw [if_pos hj]
  obtain rfl | rfl | rfl | rfl | rfl | rfl | rfl | rfl : j = 0 ∨ j = 1 ∨ j = 2 ∨ j = 3 ∨ j = 4 ∨ j = 5 ∨ j = 6 ∨ j = 7 := by omega
  all_goals rfl
theorem sumRow64_step (t s : S8) (k j : Nat) : (if j = k then cu64 (at32 t.list k + at32 s.list k) else sumRow64 t s k j) = sumRow64 t s (k + 1) j := by
  unfold sumRow64
  by_cases e : j = k
  · subst e; rw [if_pos rfl, if_pos (by omega)]
  · rw [if_neg e]
    by_cases hj2 : j < k
    · rw [if_pos hj2, if_pos (by omega)]
    · rw [if_neg hj2, if_neg (by omega)]
theorem Rd3.set {w wr : World} {t s : S8} {gh oh gv k : Nat} (h : Rd3 w s gh oh gv (sumRow64 t s k) wr) :
    Rd3 w s gh oh gv (sumRow64 t s (k + 1)) (wr.setCell ⟨gv, k, none⟩ (.int .u64 (uz (at32 t.list k + at32 s.list k)))).drew :=
  ⟨(h.below.setCell h.far _).drew, h.far, h.hfar, fun j hj => by
    have := h.old j hj
    have hne : gh ≠ gv := by have := h.far; have := h.hfar; omega
    show (World.setCell _ _ _).cell? _ = _
    rw [World.cell?_setCell_other _ _ _ _ (fun e => hne (congrArg Addr.block e).symm)]
    exact this, ((h.row.set k _).congr fun j _ => sumRow64_step t s k j).drew⟩

set_option maxRecDepth 100000 in
set_option maxHeartbeats 1600000 in
theorem round_any (s : S8) (p : List UInt8) (gh oh ch gp op cp : Nat) (w : World) (hgh : gh < w.heap.size) (hgp : gp < w.heap.size)
    (hh : ∀ j, j < 8 → w.cell? ⟨gh, oh + j, none⟩ = some (.int .u64 (uz (at32 s.list j))))
    (hp : ∀ j, j < 64 → w.cell? ⟨gp, op + j, none⟩ = some (.int .u8 (bz (at8 p j)))) :
    Calls Tryd.prog 68 #[.slice (some ⟨gh, oh, none⟩) 8 ch, .slice (some ⟨gp, op, none⟩) 64 cp] w (EightPost (comp s p).list w) := by
  obtain ⟨i0, hi, hz0, hz1, hz2⟩ := info_parts Tryd.infoU64
  have HI := Lib.hid (And.intro hi (And.intro hz0 (And.intro hz1 hz2)))
  clear hi hz0 hz1 hz2
  go_enter Tryd.func68, Tryd.ntmps68
  go_wp2
  go_loopg [5, 6] 64 (fun g v i wr => ∃ k : Nat, k ≤ 64 ∧ g = 64 - k ∧ i = .int .i64 k ∧ RdW w p k v wr)
  case atStart => exact ⟨0, by omega, rfl, rfl, Below.refl _ _, rfl, Or.inl ⟨rfl, rfl⟩⟩
  case round =>
    obtain ⟨k, hk, rfl, rfl, hS⟩ := hrel
    by_cases hlt : k < 64
    · have hlt' : (k : Int) < 64 := by omega
      by_cases hlo : k < 16
      · have hlo' : (k : Int) < 16 := by omega
        have c0 : wr.cell? ⟨gp, op + 4 * k, none⟩ = some (.int .u8 (bz (at8 p (4 * k)))) := (hS.below.cell (p := ⟨gp, op + 4 * k, none⟩) hgp).trans (hp _ (by omega))
        have c1 : wr.cell? ⟨gp, op + (4 * k + 1), none⟩ = some (.int .u8 (bz (at8 p (4 * k + 1)))) := (hS.below.cell (p := ⟨gp, op + (4 * k + 1), none⟩) hgp).trans (hp _ (by omega))
        have c2 : wr.cell? ⟨gp, op + (4 * k + 2), none⟩ = some (.int .u8 (bz (at8 p (4 * k + 2)))) := (hS.below.cell (p := ⟨gp, op + (4 * k + 2), none⟩) hgp).trans (hp _ (by omega))
        have c3 : wr.cell? ⟨gp, op + (4 * k + 3), none⟩ = some (.int .u8 (bz (at8 p (4 * k + 3)))) := (hS.below.cell (p := ⟨gp, op + (4 * k + 3), none⟩) hgp).trans (hp _ (by omega))
        obtain ⟨e0, e1, e2, e3, n0, n1, n2, n3, m0, m1, m2, m3⟩ := four k (by omega)
        have l0 : 4 * (k : Int) < 64 := by omega
        have l1 : 4 * (k : Int) + 1 < 64 := by omega
        have l2 : 4 * (k : Int) + 2 < 64 := by omega
        have l3 : 4 * (k : Int) + 3 < 64 := by omega
        go_wp2_with fail
        have hA := hS.far hgp
        have hB := hS.below.size
        have hC : gp < wr.heap.size := by omega
        have hown := hS.own
        obtain ⟨hi, hz0, hz1, hz2⟩ := HI.out
        go_region_held3 (fun w' => w'.cell? ⟨gp, op + 4 * k, none⟩ = some (.int .u8 (bz (at8 p (4 * k)))) ∧ w'.cell? ⟨gp, op + (4 * k + 1), none⟩ = some (.int .u8 (bz (at8 p (4 * k + 1)))) ∧ w'.cell? ⟨gp, op + (4 * k + 2), none⟩ = some (.int .u8 (bz (at8 p (4 * k + 2)))) ∧ w'.cell? ⟨gp, op + (4 * k + 3), none⟩ = some (.int .u8 (bz (at8 p (4 * k + 3)))))
          (first
            | go_keep
            | (go_split_ands
               refine ⟨?_, ?_, ?_, ?_⟩ <;> (rw [hgrow.cell_far _ (by simp; omega) (Ne.symm hA)]; assumption)))
          ((refine step_append_lies _ (by rfl) _ _ _ (by rfl) w.heap.size 22 i0 _ 1 8 Tryd.underlying149 hi hz0 hz1 hz2 rfl (by omega) u5 k _ (by rfl) ((hown.alloc _).drew)
              ⟨wr.heap.size, 0, none⟩ 1 1 [.int .u64 (uz (wFirst p k))] (by rfl) (by rfl) (World.news_of_block (cs := #[.int .u64 (uz (wFirst p k))]) (t := 22) (fr := (0, 0)) (heap_alloc_new wr _)) (by simp [Value.oneCell'])
              (by omega) (by unfold maxLen; omega) (by omega) (by simp; omega) (wr.heap.size + 1) (by simp) ?_; intro gg cap w1 hown1 hgrow hat hlt2))
        go_wp2
        go_roundg (64 - (k + 1))
        case measure => omega
        case rel => exact ⟨k + 1, by omega, rfl, by go_num, hS.push _ 1 (by rw [sched, if_pos hlo]) hown1 hgrow⟩
      · obtain ⟨g0, cap0, rfl, hg0, hg1⟩ := hS.own.form (by omega)
        have hc : ∀ j, j < k → wr.cell? ⟨g0, j, none⟩ = some (.int .u64 (uz (at32 (sched p k) j))) := fun j hj => by
          rw [hS.own.cellAt j (by omega), List.getElem?_map]
          have hj' : j < (sched p k).length := by rw [sched_length]; exact hj
          simp [at32, List.getD_eq_getElem?_getD, List.getElem?_eq_getElem hj', cu64]
        have c0 := hc (k - 15) (by omega)
        have c1 := hc (k - 2) (by omega)
        have Hc := Lib.hid hc; clear hc
        have e0 : IntKind.i64.wrap ((k : Int) - 15) = (k : Int) - 15 := IntWalk.i64_in _ (by omega)
        have e1 : IntKind.i64.wrap ((k : Int) - 2) = (k : Int) - 2 := IntWalk.i64_in _ (by omega)
        have e2 : IntKind.i64.wrap ((k : Int) - 16) = (k : Int) - 16 := IntWalk.i64_in _ (by omega)
        have e3 : IntKind.i64.wrap ((k : Int) - 7) = (k : Int) - 7 := IntWalk.i64_in _ (by omega)
        have n0 : ((k : Int) - 15).toNat = k - 15 := by omega
        have n1 : ((k : Int) - 2).toNat = k - 2 := by omega
        have n2 : ((k : Int) - 16).toNat = k - 16 := by omega
        have n3 : ((k : Int) - 7).toNat = k - 7 := by omega
        have l0 : (k : Int) - 15 < (k : Int) := by omega
        have l1 : (k : Int) - 2 < (k : Int) := by omega
        have l2 : (k : Int) - 16 < (k : Int) := by omega
        have l3 : (k : Int) - 7 < (k : Int) := by omega
        have m0 : 15 ≤ (k : Int) := by omega
        have m1 : 2 ≤ (k : Int) := by omega
        have m2 : 16 ≤ (k : Int) := by omega
        have m3 : 7 ≤ (k : Int) := by omega
        go_wp2_with fail
        go_quiet ((go_at_call 81; exact Calls.quiet_of_same (rturn_q _ _ _ _ (by omega) (by omega))))
        go_wp2_with fail
        refine (?_ : ∀ w2 : World, RdW w p k _ w2 ∧ (∀ j, j < k → w2.cell? ⟨g0, j, none⟩ = some (.int .u64 (uz (at32 (sched p k) j)))) ∧ g0 < w2.heap.size → Code.wp _ _ _ _ w2) _ ⟨hS.drewN _, Hc.out, hg1⟩
        clear hS c0 c1 Hc hg1
        intro w2 ⟨hS, hc, hg1⟩
        have c1 := hc (k - 2) (by omega)
        have Hc := Lib.hid hc; clear hc
        go_quiet ((go_at_call 81; exact Calls.quiet_of_same (rturn_q _ _ _ _ (by omega) (by omega))))
        go_wp2_with fail
        refine (?_ : ∀ w3 : World, RdW w p k _ w3 ∧ (∀ j, j < k → w3.cell? ⟨g0, j, none⟩ = some (.int .u64 (uz (at32 (sched p k) j)))) ∧ g0 < w3.heap.size → Code.wp _ _ _ _ w3) _ ⟨hS.drewN _, Hc.out, hg1⟩
        clear hS c1 Hc hg1
        intro w3 ⟨hS, hc, hg1⟩
        have c2 := hc (k - 16) (by omega)
        have c3 := hc (k - 7) (by omega)
        clear hc
        have hown := hS.own
        have hB := hS.below.size
        obtain ⟨hi, hz0, hz1, hz2⟩ := HI.out
        go_region_law (refine step_append_lies _ (by rfl) _ _ _ (by rfl) w.heap.size 22 i0 _ 1 8 Tryd.underlying149 hi hz0 hz1 hz2 rfl (by omega) _ k _ (by rfl) ((hown.alloc _).drew) ⟨w3.heap.size, 0, none⟩ 1 1 [.int .u64 (uz (wNext (sched p k) k))] (by rfl) (by rfl) (World.news_of_block (cs := #[.int .u64 (uz (wNext (sched p k) k))]) (t := 22) (fr := (0, 0)) (heap_alloc_new w3 _)) (by simp [Value.oneCell']) (by omega) (by unfold maxLen; omega) (by omega) (by simp; omega) (w3.heap.size + 1) (by simp) ?_; intro gg cap w1 hown1 hgrow hat hlt2)
        all_goals
          go_wp2
          go_roundg (64 - (k + 1))
          case measure => omega
          case rel => exact ⟨k + 1, by omega, rfl, by go_num, hS.push _ 1 (by rw [sched, if_neg hlo]) hown1 hgrow⟩
    · obtain rfl : k = 64 := by omega
      clear hlt hk
      have d0 : wr.cell? ⟨gh, oh, none⟩ = some (.int .u64 (uz s.a)) := (hS.below.cell (p := ⟨gh, oh + 0, none⟩) hgh).trans (hh 0 (by omega))
      have d1 : wr.cell? ⟨gh, oh + 1, none⟩ = some (.int .u64 (uz s.b)) := (hS.below.cell (p := ⟨gh, oh + 1, none⟩) hgh).trans (hh 1 (by omega))
      have d2 : wr.cell? ⟨gh, oh + 2, none⟩ = some (.int .u64 (uz s.c)) := (hS.below.cell (p := ⟨gh, oh + 2, none⟩) hgh).trans (hh 2 (by omega))
      have d3 : wr.cell? ⟨gh, oh + 3, none⟩ = some (.int .u64 (uz s.d)) := (hS.below.cell (p := ⟨gh, oh + 3, none⟩) hgh).trans (hh 3 (by omega))
      have d4 : wr.cell? ⟨gh, oh + 4, none⟩ = some (.int .u64 (uz s.e)) := (hS.below.cell (p := ⟨gh, oh + 4, none⟩) hgh).trans (hh 4 (by omega))
      have d5 : wr.cell? ⟨gh, oh + 5, none⟩ = some (.int .u64 (uz s.f)) := (hS.below.cell (p := ⟨gh, oh + 5, none⟩) hgh).trans (hh 5 (by omega))
      have d6 : wr.cell? ⟨gh, oh + 6, none⟩ = some (.int .u64 (uz s.g)) := (hS.below.cell (p := ⟨gh, oh + 6, none⟩) hgh).trans (hh 6 (by omega))
      have d7 : wr.cell? ⟨gh, oh + 7, none⟩ = some (.int .u64 (uz s.h)) := (hS.below.cell (p := ⟨gh, oh + 7, none⟩) hgh).trans (hh 7 (by omega))
      have Hh := Lib.hid hh; clear hh
      clear hp
      go_wp2_with fail
      go_quiet (fail)
      clear d0 d1 d2 d3 d4 d5 d6 d7
      go_wp2_with (go_at_call 82; refine (roots_any _).mono ?_; rintro e w1 ⟨rfl, rfl⟩)
      obtain ⟨gw, capw, rfl, hgw, hgw1⟩ := hS.own.form (by omega)
      have hR : Rd2 w p s gw wr.heap.size gh oh ((wr.drewN nq).alloc (Obj.cells k64 22)) := by
        refine ⟨(hS.below.trans ⟨rfl, rfl, rfl, Nat.le_refl _, fun _ _ => rfl⟩ : Below w.heap.size w (wr.drewN nq)).alloc hS.below.size _, fun j hj => ?_, fun j hj => ?_, fun j hj => ?_⟩
        · rw [World.cell?_alloc_old _ _ _ (by show gw ≠ (wr.drewN nq).heap.size; simp; omega)]
          show wr.cell? _ = _
          rw [hS.own.cellAt j (by omega), List.getElem?_map]
          have hj' : j < (sched p 64).length := by rw [sched_length]; exact hj
          simp [at32, List.getD_eq_getElem?_getD, List.getElem?_eq_getElem hj', cu64]
        · have := World.rowIs_alloc (wr.drewN nq) k64 22 (fun j => cu64 (at32 kTab j)) (fun i hi => by
            have hi' : i < kTab.length := hi
            simp [k64, at32, List.getD_eq_getElem?_getD, List.getElem?_eq_getElem hi'])
          exact this.cell (i := j) hj
        · have hb := hS.below.size
          rw [World.cell?_alloc_old _ _ _ (by show gh ≠ (wr.drewN nq).heap.size; simp; omega)]
          exact (hS.below.cell (p := ⟨gh, oh + j, none⟩) hgh).trans (Hh.out j hj)
      have hgk : w.heap.size ≤ wr.heap.size := hS.below.size
      clear hS Hh
      generalize (wr.drewN nq).alloc (Obj.cells k64 22) = w1 at hR ⊢
      generalize wr.heap.size = gk at hR hgk ⊢
      go_loopg [9, 10, 11, 12, 13, 14, 15, 16, 18] 64 (fun n a b c d e f g l i wr => ∃ (k : Nat) (T : S8), k ≤ 64 ∧ n = 64 - k ∧ i = .int .i64 k ∧ Hid (rnds s p k = T) ∧ a = .int .u64 (uz T.a) ∧ b = .int .u64 (uz T.b) ∧ c = .int .u64 (uz T.c) ∧ d = .int .u64 (uz T.d) ∧ e = .int .u64 (uz T.e) ∧ f = .int .u64 (uz T.f) ∧ g = .int .u64 (uz T.g) ∧ l = .int .u64 (uz T.h) ∧ Rd2 w p s gw gk gh oh wr)
      case atStart => exact ⟨0, s, by omega, rfl, rfl, rfl, rfl, rfl, rfl, rfl, rfl, rfl, rfl, rfl, hR⟩
      case round =>
        clear hR
        obtain ⟨k, ⟨a, b, c, d, e, f, g, h8⟩, hk, rfl, rfl, HT, rfl, rfl, rfl, rfl, rfl, rfl, rfl, rfl, hR⟩ := hrel
        by_cases hlt : k < 64
        · have hlt' : (k : Int) < 64 := by omega
          have c0 := hR.num k hlt
          have c1 := hR.word k hlt
          go_wp2_with fail
          go_quiet ((go_at_call 81; exact Calls.quiet_of_same (rturn_q _ _ _ _ (by omega) (by omega))))
          clear c0 c1
          go_wp2_with (go_at_call 81; refine (rturn_any _ _ _ (by omega) (by omega)).mono ?_; rintro e w' ⟨rfl, rfl⟩)
          go_roundg (64 - (k + 1))
          case measure => omega
          case rel => 
            refine ⟨k + 1, rnd ⟨a, b, c, d, e, f, g, h8⟩ (at32 kTab k) (at32 (sched p 64) k), by omega, rfl, by go_num, ?_, rfl, rfl, rfl, rfl, rfl, rfl, rfl, rfl, hR.drewN _⟩
            show rnd (rnds s p k) _ _ = _
            rw [HT.out]
        · obtain rfl : k = 64 := by omega
          clear hlt hk
          have hRb := hR.below
          have hRo := Lib.hid hR.old
          clear hR
          go_wp2
          have hS : Rd3 w s gh oh wr.heap.size (sumRow64 ⟨a, b, c, d, e, f, g, h8⟩ s 0) (wr.alloc (.cells #[.int .u64 (uz a), .int .u64 (uz b), .int .u64 (uz c), .int .u64 (uz d), .int .u64 (uz e), .int .u64 (uz f), .int .u64 (uz g), .int .u64 (uz h8)] 22)) := by
            refine ⟨hRb.alloc hRb.size _, hRb.size, hgh, fun j hj => ?_, ?_⟩
            · have := hRb.size
              rw [World.cell?_alloc_old _ _ _ (by show gh ≠ wr.heap.size; omega)]
              exact hRo.out j hj
            · refine World.rowIs_alloc wr _ 22 (sumRow64 ⟨a, b, c, d, e, f, g, h8⟩ s 0) (fun i hi => ?_)
              have hi' : i < 8 := hi
              obtain rfl | rfl | rfl | rfl | rfl | rfl | rfl | rfl : i = 0 ∨ i = 1 ∨ i = 2 ∨ i = 3 ∨ i = 4 ∨ i = 5 ∨ i = 6 ∨ i = 7 := by omega
              all_goals rfl
          clear hRb hRo
          generalize wr.alloc (.cells #[.int .u64 (uz a), .int .u64 (uz b), .int .u64 (uz c), .int .u64 (uz d), .int .u64 (uz e), .int .u64 (uz f), .int .u64 (uz g), .int .u64 (uz h8)] 22) = w5 at hS ⊢
          generalize wr.heap.size = gv at hS ⊢
          go_loopg [22] 8 (fun n i wr => ∃ k : Nat, k ≤ 8 ∧ n = 8 - k ∧ i = .int .i64 k ∧ Rd3 w s gh oh gv (sumRow64 ⟨a, b, c, d, e, f, g, h8⟩ s k) wr)
          case atStart => exact ⟨0, by omega, rfl, rfl, hS⟩
          case round =>
            clear hS
            obtain ⟨k, hk, rfl, rfl, hS⟩ := hrel
            by_cases hlt : k < 8
            · have hlt' : (k : Int) < 8 := by omega
              generalize hT : (⟨a, b, c, d, e, f, g, h8⟩ : S8) = T at hS
              have HTT := Lib.hid hT
              clear HT hT
              have c0 : wr.cell? ⟨gv, k, none⟩ = some (.int .u64 (uz (at32 T.list k))) := by
                rw [hS.row.cell hlt, sumRow64, if_neg (Nat.lt_irrefl k)]; rfl
              have c1 := hS.old k hlt
              have f0 : wr.frozen? ⟨gv, k, none⟩ = false := hS.row.frozen k
              go_wp2_with fail
              go_still_tail 13, (by kernel_rfl)
              change wpList _ _ _ _ _ wr.drew
              go_wp2
              go_roundg (8 - (k + 1))
              case measure => omega
              case rel => exact ⟨k + 1, by omega, rfl, by go_num, by rw [HTT.out]; exact hS.set⟩
            · obtain rfl : k = 8 := by omega
              go_wp2
              go_ret
              refine ⟨gv, rfl, hS.far, ?_, hS.below⟩
              have := hS.row.congr (sumRow64_end ⟨a, b, c, d, e, f, g, h8⟩ s)
              rw [← HT.out] at this
              exact this
end Go.Proofs.YtegdlpllljccgaaDoor
