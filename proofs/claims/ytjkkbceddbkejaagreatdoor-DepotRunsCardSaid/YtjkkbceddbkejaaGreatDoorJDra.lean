import Derived.Test.YtjkkbceddbkejaaGreatDoorDpFillA
import Derived.Test.YtjkkbceddbkejaaGreatDoorDpWorst
import Derived.BigQuiet
import Derived.RegionTactic
import Derived.BigRegion
import Derived.Test.YtjkkbceddbkejaaGreatDoorDpLaw
import Derived.Test.YtjkkbceddbkejaaGreatDoorJDpd
set_option linter.unusedSimpArgs false
set_option linter.unusedVariables false
namespace Go.Proofs.YtjkkbceddbkejaaGreatDoor
open Go.RowKit Sh Go.Maps Go.Extern.Stop Go.Stop Go.Extern

/-- A call that answers v and turns nothing. -/
def SameP (v : Value) (w : World) (e : Ending) (w' : World) : Prop := e = .returned v ∧ w' = w
def stN (hs : List (List UInt8)) (i : Nat) : Nat := (stS hs i).toNat
/-- The reference's depot of M slots in block m, its states in block sb, its blocks in block bb. -/
structure RfAt (m sb bb M : Nat) (hs : Nat → Nat) (bl : Nat → List UInt8) (w : World) : Prop where
  c0 : w.cell? ⟨m, 0, none⟩ = some (.slice (some ⟨sb, 0, none⟩) M M)
  c1 : w.cell? ⟨m, 1, none⟩ = some (.slice (some ⟨bb, 0, none⟩) M M)
  st : ∀ i, i < M → w.cell? ⟨sb, i, none⟩ = some (.int .i64 (hs i : Nat))
  pg : ∀ i, i < M → w.rangeAt bb (i * 64) ((bl i).map cu8)
  sk : ∃ (cur : Array Value) (t : TypeId), w.heap[sb]? = some (.cells cur t (0, 0))
  bk : ∃ (cur : List Value) (t : TypeId), w.heap[bb]? = some (.cells cur.toArray t (0, 0)) ∧ cur.length = M * 64
  ne : sb ≠ bb ∧ m ≠ sb ∧ m ≠ bb
def cntF (p : Nat → Bool) : Nat → Nat
  | 0 => 0
  | k + 1 => cntF p k + if p k then 1 else 0
theorem cntF_le (p : Nat → Bool) : ∀ k, cntF p k ≤ k
  | 0 => Nat.le_refl _
  | k + 1 => by have := cntF_le p k; simp only [cntF]; split <;> omega
def pB (hs : Nat → Nat) (box : Int) (c : Nat) (i : Nat) : Bool := (decide (box < 0) || decide (((i / 4 : Nat) : Int) = box)) && decide (hs i = c)
theorem quo4n (r : Nat) : ((r : Int)).tdiv 4 = ((r / 4 : Nat) : Int) := by rw [Int.tdiv_eq_ediv_of_nonneg (by omega)]; omega
section
variable {m sb bb M : Nat} {hs : Nat → Nat} {bl : Nat → List UInt8} {w : World}
set_option maxRecDepth 100000 in
set_option maxHeartbeats 16000000 in
theorem rcount_any (h : RfAt m sb bb M hs bl w) (hM : M ≤ 256) (box : Int) (c : Nat) :
    Calls Tryz.prog 65 #[.pointer (some ⟨m, 0, none⟩), .int .i64 box, .int .i64 c] w (SameP (.int .i64 (cntF (pB hs box c) M : Nat)) w) := by
  have h0 := h.c0
  have Hst := Lib.hid h.st
  clear h
  go_enter Tryz.func65, Tryz.ntmps65
  go_wp2
  go_loopg [8, 7] M (fun gm vi vn wr => ∃ i : Nat, gm = M - i ∧ i ≤ M ∧ vi = .int .i64 i ∧ vn = .int .i64 (cntF (pB hs box c) i : Nat) ∧ wr = w)
  case atStart => exact ⟨0, rfl, by omega, rfl, rfl, rfl⟩
  case round =>
    obtain ⟨i, rfl, hi, rfl, rfl, rfl⟩ := hrel
    have hle := cntF_le (pB hs box c) i
    have hs1 : cntF (pB hs box c) (i + 1) = cntF (pB hs box c) i + if pB hs box c i then 1 else 0 := rfl
    obtain ⟨C, hC⟩ : ∃ C, cntF (pB hs box c) i = C := ⟨_, rfl⟩
    rw [hC] at hs1 hle ⊢
    by_cases hlt : i < M
    · have hlt' : (i : Int) < (M : Int) := by omega
      have hci := Hst.out i hlt
      obtain ⟨s, hs'⟩ : ∃ s, hs i = s := ⟨_, rfl⟩
      rw [hs'] at hci
      have hq := quo4n i
      obtain ⟨Q, hQ⟩ : ∃ Q, i / 4 = Q := ⟨_, rfl⟩
      have hwQ : wrap64 (Q : Int) = (Q : Int) := IntWalk.wrap64_in _ (by omega)
      have hp : pB hs box c i = ((decide (box < 0) || decide ((Q : Int) = box)) && decide (s = c)) := by unfold pB; rw [hQ, hs']
      rw [hQ] at hq
      have Hs1 := Lib.hid hs1
      clear hs' hQ hC hs1
      by_cases hin : (box < 0 ∨ (Q : Int) = box) ∧ s = c
      · have hp1 : pB hs box c i = true := by rw [hp]; rcases hin with ⟨h1 | h1, h2⟩ <;> simp [h1, h2]
        obtain ⟨hbq, rfl⟩ := hin
        have Hp1 := Lib.hid hp1
        clear hp hp1
        by_cases hb : box < 0
        · clear hbq
          go_wp2
          go_roundg (M - (i + 1))
          case measure => omega
          case rel => exact ⟨i + 1, rfl, by omega, by go_num, by rw [Hs1.out, Hp1.out, if_pos rfl]; go_num, rfl⟩
        · have hbq := hbq.resolve_left hb
          subst hbq
          go_wp2
          go_roundg (M - (i + 1))
          case measure => omega
          case rel => exact ⟨i + 1, rfl, by omega, by go_num, by rw [Hs1.out, Hp1.out, if_pos rfl]; go_num, rfl⟩
      · have hp1 : pB hs box c i = false := by
          rw [hp]
          by_cases hb : box < 0
          · have : ¬ s = c := fun e => hin ⟨.inl hb, e⟩
            simp [this]
          · by_cases hq2 : (Q : Int) = box
            · have : ¬ s = c := fun e => hin ⟨.inr hq2, e⟩
              simp [this]
            · simp [hb, hq2]
        have Hp1 := Lib.hid hp1
        clear hp hp1
        by_cases hb : box < 0
        · have hsc : ¬ s = c := fun e => hin ⟨.inl hb, e⟩
          clear hin
          go_wp2
          go_roundg (M - (i + 1))
          case measure => omega
          case rel => exact ⟨i + 1, rfl, by omega, by go_num, by rw [Hs1.out, Hp1.out]; simp, rfl⟩
        · by_cases hq2 : (Q : Int) = box
          · have hsc : ¬ s = c := fun e => hin ⟨.inr hq2, e⟩
            clear hin
            subst hq2
            go_wp2
            go_roundg (M - (i + 1))
            case measure => omega
            case rel => exact ⟨i + 1, rfl, by omega, by go_num, by rw [Hs1.out, Hp1.out]; simp, rfl⟩
          · clear hin
            go_wp2
            go_roundg (M - (i + 1))
            case measure => omega
            case rel => exact ⟨i + 1, rfl, by omega, by go_num, by rw [Hs1.out, Hp1.out]; simp, rfl⟩
    · obtain rfl : M = i := by omega
      have hge : ¬ ((M : Int) < (M : Int)) := by omega
      clear hs1
      go_wp2
      go_ret
      exact ⟨rfl, rfl⟩
end
end Go.Proofs.YtjkkbceddbkejaaGreatDoor

namespace Go.Proofs.YtjkkbceddbkejaaGreatDoor
open Go.RowKit Sh Go.Maps Go.Extern.Stop Go.Stop Go.Extern

def hasOf (hs : Nat → Nat) (M : Nat) (i : Int) : Int := if i < 0 ∨ (M : Int) ≤ i then 1 else if hs i.toNat = 1 then 0 else 23
/-- Container by container: the first of those that have most dead ones. -/
def wF (hs : Nat → Nat) (M : Nat) : Nat → Nat × Nat
  | 0 => (0, 0)
  | k + 1 => if (wF hs M k).2 < cntF (pB hs (k : Int) 2) M then (k, cntF (pB hs (k : Int) 2) M) else wF hs M k
theorem wF_le (hs : Nat → Nat) (M : Nat) : ∀ k, (wF hs M k).1 ≤ k ∧ (wF hs M k).2 ≤ M
  | 0 => ⟨Nat.le_refl _, Nat.zero_le _⟩
  | k + 1 => by
    have := wF_le hs M k
    have h2 := cntF_le (pB hs (k : Int) 2) M
    simp only [wF]
    split
    · exact ⟨by simp, h2⟩
    · exact ⟨by omega, this.2⟩
section
variable {m sb bb M : Nat} {hs : Nat → Nat} {bl : Nat → List UInt8} {w : World}
set_option maxRecDepth 100000 in
set_option maxHeartbeats 16000000 in
theorem rhas_any (h : RfAt m sb bb M hs bl w) (hM : M ≤ 256) (i : Int) :
    Calls Tryz.prog 61 #[.pointer (some ⟨m, 0, none⟩), .int .i64 i] w (SameP (.int .i64 (hasOf hs M i)) w) := by
  have h0 := h.c0
  unfold hasOf
  by_cases hi0 : i < 0
  · rw [if_pos (.inl hi0)]
    clear h
    go_enter Tryz.func61, Tryz.ntmps61
    go_wp2
    go_ret
    exact ⟨rfl, rfl⟩
  by_cases hi1 : (M : Int) ≤ i
  · rw [if_pos (.inr hi1)]
    clear h
    go_enter Tryz.func61, Tryz.ntmps61
    go_wp2
    go_ret
    exact ⟨rfl, rfl⟩
  obtain ⟨k, rfl⟩ : ∃ k : Nat, i = (k : Int) := ⟨i.toNat, by omega⟩
  have hk : k < M := by omega
  have hk' : (k : Int) < (M : Int) := by omega
  have hc := h.st k hk
  rw [if_neg (by omega), Int.toNat_natCast]
  obtain ⟨s, hs'⟩ : ∃ s, hs k = s := ⟨_, rfl⟩
  rw [hs'] at hc ⊢
  clear h hs'
  by_cases h1 : s = 1
  · subst h1
    rw [if_pos rfl]
    go_enter Tryz.func61, Tryz.ntmps61
    go_wp2
    go_ret
    exact ⟨rfl, rfl⟩
  · rw [if_neg h1]
    have h1' : ¬ ((s : Int) = 1) := by omega
    go_enter Tryz.func61, Tryz.ntmps61
    go_wp2
    go_ret
    exact ⟨rfl, rfl⟩
set_option maxRecDepth 100000 in
set_option maxHeartbeats 16000000 in
theorem rroom_any (h : RfAt m sb bb M hs bl w) (hM : M ≤ 256) (but : Int) (rb : Bool) (hb : rb = true ↔ ∃ i, i < M ∧ hs i = 0 ∧ ((i / 4 : Nat) : Int) ≠ but) :
    Calls Tryz.prog 57 #[.pointer (some ⟨m, 0, none⟩), .int .i64 but] w (SameP (.bool rb) w) := by
  have h0 := h.c0
  have Hst := Lib.hid h.st
  have Hb := Lib.hid hb
  clear h hb
  go_enter Tryz.func57, Tryz.ntmps57
  go_wp2
  go_loopg [5] M (fun gm vi wr => ∃ i : Nat, gm = M - i ∧ i ≤ M ∧ vi = .int .i64 i ∧ Hid (∀ k, k < i → ¬ (hs k = 0 ∧ ((k / 4 : Nat) : Int) ≠ but)) ∧ wr = w)
  case atStart => exact ⟨0, rfl, by omega, rfl, Lib.hid (fun k hk => by omega), rfl⟩
  case round =>
    obtain ⟨i, rfl, hi, rfl, Hno, rfl⟩ := hrel
    by_cases hlt : i < M
    · have hlt' : (i : Int) < (M : Int) := by omega
      have hci := Hst.out i hlt
      obtain ⟨s, hs'⟩ : ∃ s, hs i = s := ⟨_, rfl⟩
      rw [hs'] at hci
      have hq := quo4n i
      obtain ⟨Q, hQ⟩ : ∃ Q, i / 4 = Q := ⟨_, rfl⟩
      have hwQ : wrap64 (Q : Int) = (Q : Int) := IntWalk.wrap64_in _ (by omega)
      rw [hQ] at hq
      have Hs' := Lib.hid hs'; have HQ := Lib.hid hQ
      have Hnx : ¬ (s = 0 ∧ (Q : Int) ≠ but) → Hid (∀ k, k < i + 1 → ¬ (hs k = 0 ∧ ((k / 4 : Nat) : Int) ≠ but)) := fun hx => Lib.hid (fun k hk => by
        by_cases e : k = i
        · subst e; rw [Hs'.out, HQ.out]; exact hx
        · exact Hno.out k (by omega))
      have HNX := Lib.hid Hnx
      clear hs' hQ Hnx
      by_cases h0s : s = 0
      · subst h0s
        by_cases hqb : (Q : Int) = but
        · subst hqb
          go_wp2
          go_roundg (M - (i + 1))
          case measure => omega
          case rel => exact ⟨i + 1, rfl, by omega, by go_num, HNX.out (fun hx => hx.2 rfl), rfl⟩
        · obtain rfl : rb = true := Hb.out.2 ⟨i, hlt, Hs'.out, by rw [HQ.out]; exact hqb⟩
          go_wp2
          go_ret
          exact ⟨rfl, rfl⟩
      · have h0s' : ¬ ((s : Int) = 0) := by omega
        go_wp2
        go_roundg (M - (i + 1))
        case measure => omega
        case rel => exact ⟨i + 1, rfl, by omega, by go_num, HNX.out (fun hx => h0s hx.1), rfl⟩
    · obtain rfl : M = i := by omega
      have hge : ¬ ((M : Int) < (M : Int)) := by omega
      obtain rfl : rb = false := by
        cases rb with
        | false => rfl
        | true => obtain ⟨k, h1, h2⟩ := Hb.out.1 rfl; exact absurd h2 (Hno.out k h1)
      go_wp2
      go_ret
      exact ⟨rfl, rfl⟩
set_option maxRecDepth 100000 in
set_option maxHeartbeats 16000000 in
theorem rworst_any (h : RfAt m sb bb M hs bl w) (hM : M ≤ 256) :
    Calls Tryz.prog 64 #[.pointer (some ⟨m, 0, none⟩)] w (SameP (.tuple #[.int .i64 ((wF hs M (M / 4)).1 : Nat), .int .i64 ((wF hs M (M / 4)).2 : Nat)]) w) := by
  have h0 := h.c0
  have Hc := Lib.hid (fun k : Nat => rcount_any h hM (k : Int) 2)
  have hq := quo4n M
  obtain ⟨Q, hQ⟩ : ∃ Q, M / 4 = Q := ⟨_, rfl⟩
  have hwQ : wrap64 (Q : Int) = (Q : Int) := IntWalk.wrap64_in _ (by omega)
  have hQ64 : Q ≤ 64 := by omega
  rw [hQ] at hq ⊢
  clear h hQ
  go_enter Tryz.func64, Tryz.ntmps64
  go_wp2
  go_loopg [6, 4, 5] Q (fun gm vi vb vm wr => ∃ i : Nat, gm = Q - i ∧ i ≤ Q ∧ vi = .int .i64 i ∧ vb = .int .i64 ((wF hs M i).1 : Nat) ∧ vm = .int .i64 ((wF hs M i).2 : Nat) ∧ wr = w)
  case atStart => exact ⟨0, rfl, by omega, rfl, rfl, rfl, rfl⟩
  case round =>
    obtain ⟨i, rfl, hi, rfl, rfl, rfl, rfl⟩ := hrel
    have hle := wF_le hs M i
    have hs1 : wF hs M (i + 1) = if (wF hs M i).2 < cntF (pB hs (i : Int) 2) M then (i, cntF (pB hs (i : Int) 2) M) else wF hs M i := rfl
    obtain ⟨p, hp⟩ : ∃ p, wF hs M i = p := ⟨_, rfl⟩
    rw [hp] at hle hs1 ⊢
    obtain ⟨p1, p2⟩ := p
    simp only at hle hs1 ⊢
    by_cases hlt : i < Q
    · have hlt' : (i : Int) < (Q : Int) := by omega
      have hci := Hc.out i
      have hcl := cntF_le (pB hs (i : Int) 2) M
      obtain ⟨C, hC⟩ : ∃ C, cntF (pB hs (i : Int) 2) M = C := ⟨_, rfl⟩
      rw [hC] at hci hs1 hcl
      have Hci := Lib.hid hci
      have Hs1 := Lib.hid hs1
      clear hci hs1 hC hp
      by_cases hb : p2 < C
      · have hb' : (p2 : Int) < (C : Int) := by omega
        go_wp2_with (first
          | (go_at_call 65; refine Hci.out.mono ?_))
        rintro e w1 ⟨rfl, rfl⟩
        go_wp2
        go_roundg (Q - (i + 1))
        case measure => omega
        case rel => exact ⟨i + 1, rfl, by omega, by go_num, by rw [Hs1.out, if_pos hb], by rw [Hs1.out, if_pos hb], rfl⟩
      · have hb' : ¬ ((p2 : Int) < (C : Int)) := by omega
        go_wp2_with (first
          | (go_at_call 65; refine Hci.out.mono ?_))
        rintro e w1 ⟨rfl, rfl⟩
        go_wp2
        go_roundg (Q - (i + 1))
        case measure => omega
        case rel => exact ⟨i + 1, rfl, by omega, by go_num, by rw [Hs1.out, if_neg hb], by rw [Hs1.out, if_neg hb], rfl⟩
    · obtain rfl : Q = i := by omega
      have hge : ¬ ((Q : Int) < (Q : Int)) := by omega
      clear hs1
      go_wp2
      exact bodyPost_ret (v := .tuple #[.int .i64 (p1 : Nat), .int .i64 (p2 : Nat)]) (by simp [results, Tryz.results64, go_sem]) rfl ⟨rfl, rfl⟩
/-- May, where the slot is one that the program takes. -/
theorem rmay_any (h : RfAt m sb bb M hs bl w) (hM : M ≤ 256) (but : Int) (s : Nat) (hs4 : s < M) (h0s : hs s = 0) (hbut : ((s / 4 : Nat) : Int) ≠ but)
    (hall : cntF (pB hs ((s / 4 : Nat) : Int) 0) M < 4 ∨ ∀ k : Nat, k < M / 4 → (k : Int) ≠ but → cntF (pB hs (k : Int) 0) M = 0 ∨ 4 ≤ cntF (pB hs (k : Int) 0) M) :
    Calls Tryz.prog 58 #[.pointer (some ⟨m, 0, none⟩), .int .i64 (s : Nat), .int .i64 but] w (SameP (.bool true) w) := by
  have h0 := h.c0
  have hci : w.cell? ⟨sb, s, none⟩ = some (.int .i64 0) := by have := h.st s hs4; rw [h0s] at this; exact this
  have Hc := Lib.hid (fun k : Nat => rcount_any h hM (k : Int) 0)
  have hq := quo4n M
  obtain ⟨Q, hQ⟩ : ∃ Q, M / 4 = Q := ⟨_, rfl⟩
  have hwQ : wrap64 (Q : Int) = (Q : Int) := IntWalk.wrap64_in _ (by omega)
  have hQ64 : Q ≤ 64 := by omega
  rw [hQ] at hq hall
  have hqs := quo4n s
  obtain ⟨P, hP⟩ : ∃ P, s / 4 = P := ⟨_, rfl⟩
  have hwP : wrap64 (P : Int) = (P : Int) := IntWalk.wrap64_in _ (by omega)
  rw [hP] at hqs hall hbut
  have hcs := Hc.out P
  have hcl := cntF_le (pB hs (P : Int) 0) M
  obtain ⟨C, hC⟩ : ∃ C, cntF (pB hs (P : Int) 0) M = C := ⟨_, rfl⟩
  rw [hC] at hcs hall hcl
  have Hcs := Lib.hid hcs
  have hs4' : (s : Int) < (M : Int) := by omega
  have Hall := Lib.hid hall
  have hs0 : ¬ ((s : Int) < 0) := by omega
  have hMs : ¬ (M ≤ s) := by omega
  have hPb : ((P : Int) == but) = false := by simpa using hbut
  clear h hQ hP hcs hC hall h0s
  go_enter Tryz.func58, Tryz.ntmps58
  by_cases hC4 : C < 4
  · have hC4' : (C : Int) < 4 := by omega
    go_wp2_with (first
      | (go_at_call 65; refine Hcs.out.mono ?_))
    rintro e w1 ⟨rfl, rfl⟩
    go_wp2
    go_ret
    exact ⟨rfl, rfl⟩
  · have hC4' : ¬ ((C : Int) < 4) := by omega
    have Hno := Lib.hid (Hall.out.resolve_left hC4)
    clear Hall
    go_wp2_with (first
      | (go_at_call 65; refine Hcs.out.mono ?_))
    rintro e w1 ⟨rfl, rfl⟩
    clear Hcs hci hqs hwP
    go_wp2
    go_loopg [7] Q (fun gm vi wr => ∃ i : Nat, gm = Q - i ∧ i ≤ Q ∧ vi = .int .i64 i ∧ wr = w1)
    case atStart => exact ⟨0, rfl, by omega, rfl, rfl⟩
    case round =>
      obtain ⟨i, rfl, hi, rfl, rfl⟩ := hrel
      by_cases hlt : i < Q
      · have hlt' : (i : Int) < (Q : Int) := by omega
        have hcq := Hc.out i
        have hcm := cntF_le (pB hs (i : Int) 0) M
        have hno := Hno.out i hlt
        obtain ⟨E, hE⟩ : ∃ E, cntF (pB hs (i : Int) 0) M = E := ⟨_, rfl⟩
        rw [hE] at hcq hno hcm
        have Hcq := Lib.hid hcq
        clear hcq hE
        by_cases hib : (i : Int) = but
        · subst hib
          go_wp2_with (first
            | (go_at_call 65; refine Hcq.out.mono ?_))
          rintro e w2 ⟨rfl, rfl⟩
          go_wp2
          go_roundg (Q - (i + 1))
          case measure => omega
          case rel => exact ⟨i + 1, rfl, by omega, by go_num, rfl⟩
        · rcases hno hib with hE0 | hE4
          · subst hE0
            clear hno
            go_wp2_with (first
              | (go_at_call 65; refine Hcq.out.mono ?_))
            rintro e w2 ⟨rfl, rfl⟩
            go_wp2
            go_roundg (Q - (i + 1))
            case measure => omega
            case rel => exact ⟨i + 1, rfl, by omega, by go_num, rfl⟩
          · have hE4' : ¬ ((E : Int) < 4) := by omega
            have hE0' : (0 : Int) < (E : Int) := by omega
            clear hno
            go_wp2_with (first
              | (go_at_call 65; refine Hcq.out.mono ?_))
            rintro e w2 ⟨rfl, rfl⟩
            go_wp2
            go_roundg (Q - (i + 1))
            case measure => omega
            case rel => exact ⟨i + 1, rfl, by omega, by go_num, rfl⟩
      · obtain rfl : Q = i := by omega
        have hge : ¬ ((Q : Int) < (Q : Int)) := by omega
        go_wp2
        go_ret
        exact ⟨rfl, rfl⟩
end
end Go.Proofs.YtjkkbceddbkejaaGreatDoor

namespace Go.Proofs.YtjkkbceddbkejaaGreatDoor
open Go.RowKit Sh

theorem free_not0 {hs : List (List UInt8)} (H : ∀ h ∈ hs, Hd h) {s : Nat} (hs4 : s / 4 < hs.length) (hf : (hs.getD (s / 4) [])[s % 4]? = some 0) : stS hs s = 0 := by
  have := stS_get H hs4
  rw [hf] at this
  exact (Option.some.inj this).symm
theorem cnt4 (h : List UInt8) (hl : h.length = 4) (c : UInt8) : cntF (fun j => decide ((h.getD j 0).toNat = c.toNat)) 4 = h.count c := by
  match h, hl with
  | [a, b, d, e], _ =>
    simp only [cntF, List.getD_cons_zero, List.getD_cons_succ, List.count_cons, List.count_nil, UInt8.toNat_inj, beq_iff_eq, decide_eq_true_eq]
    by_cases h1 : a = c <;> by_cases h2 : b = c <;> by_cases h3 : d = c <;> by_cases h4 : e = c <;> simp [h1, h2, h3, h4]
theorem cntF_congr {p q : Nat → Bool} : ∀ {k : Nat}, (∀ i, i < k → p i = q i) → cntF p k = cntF q k
  | 0, _ => rfl
  | k + 1, h => by simp only [cntF]; rw [cntF_congr (k := k) (fun i hi => h i (by omega)), h k (by omega)]
theorem cntF_four (p : Nat → Bool) (k : Nat) : cntF p (4 * (k + 1)) = cntF p (4 * k) + cntF (fun j => p (4 * k + j)) 4 := by
  have e : 4 * (k + 1) = 4 * k + 4 := by omega
  have h1 : cntF p (4 * k + 4) = cntF p (4 * k) + (if p (4 * k) then 1 else 0) + (if p (4 * k + 1) then 1 else 0) + (if p (4 * k + 2) then 1 else 0) + (if p (4 * k + 3) then 1 else 0) := rfl
  have h2 : cntF (fun j => p (4 * k + j)) 4 = 0 + (if p (4 * k) then 1 else 0) + (if p (4 * k + 1) then 1 else 0) + (if p (4 * k + 2) then 1 else 0) + (if p (4 * k + 3) then 1 else 0) := rfl
  rw [e, h1, h2]
  simp only [Nat.zero_add, Nat.add_assoc]
section
variable {hs : List (List UInt8)} {n : Nat}
theorem stN_in {k j : Nat} (hj : j < 4) : stN hs (4 * k + j) = ((hs.getD k []).getD j 0).toNat := by
  unfold stN stS
  rw [show (4 * k + j) / 4 = k by omega, show (4 * k + j) % 4 = j by omega]
theorem cnt_box (H : ∀ h ∈ hs, h.length = 4) {k0 : Nat} (c : UInt8) : ∀ {k : Nat}, k ≤ hs.length → cntF (pB (stN hs) (k0 : Int) c.toNat) (4 * k) = if k0 < k then (hs.getD k0 []).count c else 0
  | 0, _ => rfl
  | k + 1, hk => by
    rw [cntF_four, cnt_box H c (by omega)]
    by_cases e : k0 = k
    · subst e
      rw [if_neg (by omega), if_pos (by omega), Nat.zero_add]
      rw [← cnt4 (hs.getD k0 []) (H _ (getD_mem (by omega)).1) c]
      refine cntF_congr fun j hj => ?_
      unfold pB
      rw [stN_in hj, show (4 * k0 + j) / 4 = k0 by omega]
      simp
    · have e0 : cntF (fun j => pB (stN hs) (k0 : Int) c.toNat (4 * k + j)) 4 = 0 := by
        have : cntF (fun j => pB (stN hs) (k0 : Int) c.toNat (4 * k + j)) 4 = cntF (fun _ => false) 4 := cntF_congr fun j hj => by
          unfold pB
          rw [show (4 * k + j) / 4 = k by omega]
          have h1 : ¬ ((k0 : Int) < 0) := by omega
          have h2 : ¬ ((k : Int) = (k0 : Int)) := by omega
          simp only [decide_eq_false h1, decide_eq_false h2, Bool.or_self, Bool.false_and]
        rw [this]; rfl
      rw [e0]
      by_cases h : k0 < k
      · rw [if_pos h, if_pos (by omega)]; omega
      · rw [if_neg h, if_neg (by omega)]
theorem cnt_all (H : ∀ h ∈ hs, Hd h) (c : UInt8) : ∀ {k : Nat}, k ≤ hs.length → cntF (pB (stN hs) (-1) c.toNat) (4 * k) = cntA c (hs.take k)
  | 0, _ => rfl
  | k + 1, hk => by
    rw [cntF_four, cnt_all H c (by omega), cntA_take (getD_mem (hs := hs) (k := k) (by omega)).2]
    rw [← cnt4 (hs.getD k []) (H _ (getD_mem (by omega)).1).len c]
    congr 1
    refine cntF_congr fun j hj => ?_
    unfold pB
    rw [stN_in hj]
    simp
theorem cnt_whole (H : ∀ h ∈ hs, Hd h) (hl : hs.length = n) (c : UInt8) : cntF (pB (stN hs) (-1) c.toNat) (4 * n) = cntA c hs := by
  rw [cnt_all H c (by omega), ← hl, List.take_length]
theorem cnt_one (H : ∀ h ∈ hs, h.length = 4) (hl : hs.length = n) {k : Nat} (hk : k < n) (c : UInt8) : cntF (pB (stN hs) (k : Int) c.toNat) (4 * n) = (hs.getD k []).count c := by
  rw [cnt_box H c (by omega), if_pos hk]
theorem has_get (bl : Nat → List UInt8) (i : Int) : hasOf (stN hs) (4 * n) i = (getOf hs bl n i).2 := by
  unfold hasOf getOf
  by_cases h : i < 0 ∨ (4 * n : Int) ≤ i
  · rw [if_pos (by omega), if_pos h]
  · rw [if_neg (by omega), if_neg h]
    unfold stN
    by_cases e : stS hs i.toNat = 1
    · rw [if_pos (by rw [e]; rfl), if_pos e]
    · have e' : ¬ (stS hs i.toNat).toNat = 1 := fun h2 => e (UInt8.toNat_inj.1 h2)
      rw [if_neg e', if_neg e]
/-- The worst one, box by box. -/
theorem worst_steps : ∀ (hs : List (List UInt8)) (k0 : Nat) (r : Nat × Nat) (f : Nat → Nat × Nat), f k0 = r → (∀ j, j < hs.length → f (k0 + j + 1) = if (f (k0 + j)).2 < (hs.getD j []).count 2 then (k0 + j, (hs.getD j []).count 2) else f (k0 + j)) → f (k0 + hs.length) = worstAt k0 hs r
  | [], k0, r, f, h0, _ => by rw [List.length_nil, Nat.add_zero, h0]; rfl
  | h :: t, k0, r, f, h0, hst => by
    have h1 := hst 0 (by simp)
    simp only [Nat.add_zero, List.getD_cons_zero, h0] at h1
    have := worst_steps t (k0 + 1) _ f h1 (fun j hj => by
      have := hst (j + 1) (by simp; omega)
      rw [show k0 + (j + 1) = k0 + 1 + j by omega, List.getD_cons_succ] at this
      exact this)
    rw [List.length_cons, show k0 + (t.length + 1) = k0 + 1 + t.length by omega, this]
    rfl
theorem worst_ref (H : ∀ h ∈ hs, Hd h) (hl : hs.length = n) : wF (stN hs) (4 * n) n = worstL hs := by
  have := worst_steps hs 0 (0, 0) (wF (stN hs) (4 * n)) rfl (fun j hj => by
    rw [Nat.zero_add]
    have e : cntF (pB (stN hs) (j : Int) 2) (4 * n) = (hs.getD j []).count 2 := cnt_one (fun h hh => (H h hh).len) hl (by omega) 2
    rw [← e]; rfl)
  rw [Nat.zero_add, hl] at this
  exact this
theorem room_ref (H : ∀ h ∈ hs, Hd h) (hl : hs.length = n) (but : Int) : (roomL but hs).isSome = true ↔ ∃ i, i < 4 * n ∧ stN hs i = 0 ∧ ((i / 4 : Nat) : Int) ≠ but := by
  constructor
  · intro h
    obtain ⟨s, hs'⟩ := Option.isSome_iff_exists.1 h
    obtain ⟨h4, hb, hf⟩ := room_some H hs'
    refine ⟨s, by omega, ?_, hb⟩
    have := stS_get H h4
    rw [hf] at this
    unfold stN
    rw [← Option.some.inj this]; rfl
  · rintro ⟨i, hi, h0, hb⟩
    cases hr : roomL but hs with
    | some s => rfl
    | none =>
      have h1 := (roomAt_none.1 hr).2 (i / 4) (hs.getD (i / 4) []) (getD_mem (by omega)).2 (by rw [Nat.zero_add]; exact hb)
      have h2 := stS_get H (s := i) (by omega)
      have e : stS hs i = 0 := UInt8.toNat_inj.1 h0
      rw [e] at h2
      exact absurd h1 (Nat.ne_of_gt (List.count_pos_iff.2 (List.mem_of_getElem? h2)))
theorem z4_of_count {h : List UInt8} (hl : h.length = 4) (hc : 4 ≤ h.count 0) : h = z4 := by
  have h1 : h.count 0 = h.length := by have := List.count_le_length (a := (0 : UInt8)) (l := h); omega
  rw [List.count_eq_length] at h1
  have : h = List.replicate 4 0 := List.eq_replicate_iff.2 ⟨hl, fun b hb => (h1 b hb).symm⟩
  rw [this]; rfl
theorem roomAt_may {but : Int} : ∀ {hs : List (List UInt8)} {k : Nat} {s : Nat} {fr : Option Nat}, (∀ h ∈ hs, h.length = 4) → roomAt but k hs fr = some s →
    (k ≤ s / 4 ∧ s / 4 < k + hs.length ∧ (hs.getD (s / 4 - k) []).count 0 < 4) ∨ ∀ j h, hs[j]? = some h → ((k + j : Nat) : Int) ≠ but → h.count 0 = 0 ∨ 4 ≤ h.count 0
  | [], _, _, _, _, _ => .inr (fun j h e => by simp at e)
  | h :: t, k, s, fr, H, e => by
    have Ht := fun x hx => H x (List.mem_cons_of_mem _ hx)
    have hl := H h List.mem_cons_self
    have lift : ∀ {fr2 : Option Nat}, roomAt but (k + 1) t fr2 = some s → ((k : Int) ≠ but → h.count 0 = 0 ∨ 4 ≤ h.count 0) →
        (k ≤ s / 4 ∧ s / 4 < k + (h :: t).length ∧ ((h :: t).getD (s / 4 - k) []).count 0 < 4) ∨ ∀ j x, (h :: t)[j]? = some x → ((k + j : Nat) : Int) ≠ but → x.count 0 = 0 ∨ 4 ≤ x.count 0 := by
      intro fr2 e2 h0
      rcases roomAt_may Ht e2 with ⟨a1, a2, a3⟩ | a
      · refine .inl ⟨by omega, by simp only [List.length_cons]; omega, ?_⟩
        rw [show s / 4 - k = (s / 4 - (k + 1)) + 1 by omega, List.getD_cons_succ]; exact a3
      · refine .inr fun j x hj hb => ?_
        cases j with
        | zero =>
          simp only [List.getElem?_cons_zero, Option.some.injEq] at hj
          subst hj
          exact h0 (by simpa using hb)
        | succ j => exact a j x hj (by rw [show k + 1 + j = k + (j + 1) by omega]; exact hb)
    unfold roomAt at e
    split at e
    · rename_i hn
      exact lift e (fun _ => .inl (freeH_none.1 hn))
    · rename_i i hi
      split at e
      · rename_i hb
        exact lift e (fun hb' => absurd hb hb')
      · split at e
        · rename_i hz
          obtain rfl : k * 4 + i = s := by simpa using e
          have hi4 : i < 4 := by rw [← hl]; exact (List.getElem?_eq_some_iff.1 (freeH_some hi)).1
          refine .inl ⟨by omega, by simp only [List.length_cons]; omega, ?_⟩
          rw [show (k * 4 + i) / 4 - k = 0 by omega, List.getD_cons_zero]
          have : ¬ 4 ≤ h.count 0 := fun hc => hz (z4_of_count hl hc)
          omega
        · rename_i hz
          have hz : h = z4 := Classical.byContradiction fun hh => hz hh
          exact lift e (fun _ => .inr (by rw [hz]; decide))
theorem may_ref (H : ∀ h ∈ hs, Hd h) (hl : hs.length = n) {but : Int} {s : Nat} (hr : roomL but hs = some s) :
    cntF (pB (stN hs) ((s / 4 : Nat) : Int) 0) (4 * n) < 4 ∨ ∀ k : Nat, k < 4 * n / 4 → (k : Int) ≠ but → cntF (pB (stN hs) (k : Int) 0) (4 * n) = 0 ∨ 4 ≤ cntF (pB (stN hs) (k : Int) 0) (4 * n) := by
  have H4 : ∀ h ∈ hs, h.length = 4 := fun h hh => (H h hh).len
  have hb := (room_some H hr).1
  have e : ∀ k : Nat, k < n → cntF (pB (stN hs) (k : Int) 0) (4 * n) = (hs.getD k []).count 0 := fun k hk => cnt_one H4 hl hk 0
  rcases roomAt_may H4 hr with ⟨_, _, h⟩ | h
  · left; rw [e _ (by omega)]; exact h
  · right
    intro k hk hkb
    rw [e k (by omega)]
    exact h k _ (getD_mem (by omega)).2 (by rw [Nat.zero_add]; exact hkb)
/-- A slot becomes live. -/
theorem stN_put (H : ∀ h ∈ hs, Hd h) {s : Nat} (hs4 : s / 4 < hs.length) : stN (markL hs s 1) = fun i => if i = s then 1 else stN hs i := by
  funext i
  unfold stN
  by_cases e : i = s
  · rw [if_pos e, e, st_live_self H hs4]; rfl
  · rw [if_neg e, st_live_other H hs4 e]
/-- A slot is dead, its container's others as they were. -/
def killN (f : Nat → Nat) (s : Nat) : Nat → Nat := fun i => if i = s then 2 else f i
def clearN (f : Nat → Nat) (s j : Nat) : Nat → Nat := fun i => if i / 4 = s / 4 ∧ i % 4 < j then 0 else f i
theorem stN_kill (H : ∀ h ∈ hs, Hd h) {s : Nat} (hs4 : s / 4 < hs.length) : killN (stN hs) s = stN (hs.set (s / 4) ((hs.getD (s / 4) []).set (s % 4) 2)) := by
  have hd := H _ (getD_mem hs4).1
  funext i
  unfold killN stN stS
  by_cases e : i / 4 = s / 4
  · rw [e, List.getD_eq_getElem?_getD (l := hs.set _ _), List.getElem?_set_self hs4, Option.getD_some]
    by_cases e2 : i = s
    · rw [if_pos e2, e2, List.getD_eq_getElem?_getD, List.getElem?_set_self (by rw [hd.len]; omega)]; rfl
    · rw [if_neg e2, List.getD_eq_getElem?_getD (l := List.set _ _ _), List.getElem?_set_ne (by omega), ← List.getD_eq_getElem?_getD]
  · rw [if_neg (fun h => e (by rw [h])), List.getD_eq_getElem?_getD (l := hs.set _ _), List.getElem?_set_ne (Ne.symm e), ← List.getD_eq_getElem?_getD]
theorem stN_drop (H : ∀ h ∈ hs, Hd h) (hl : hs.length = n) {s : Nat} (hs4 : s / 4 < n) :
    stN (markL hs s 2) = if cntF (pB (killN (stN hs) s) ((s / 4 : Nat) : Int) 1) (4 * n) = 0 then clearN (killN (stN hs) s) s 4 else killN (stN hs) s := by
  have hd := H _ (getD_mem (hs := hs) (k := s / 4) (by omega)).1
  have hk := stN_kill H (s := s) (by omega)
  have hc : cntF (pB (killN (stN hs) s) ((s / 4 : Nat) : Int) 1) (4 * n) = ((hs.getD (s / 4) []).set (s % 4) 2).count 1 := by
    rw [hk]
    have := cnt_one (hs := hs.set (s / 4) ((hs.getD (s / 4) []).set (s % 4) 2)) (n := n) (fun h hh => by
      rcases List.mem_or_eq_of_mem_set hh with h1 | rfl
      · exact (H h h1).len
      · rw [List.length_set]; exact hd.len) (by rw [List.length_set]; exact hl) hs4 1
    rw [List.getD_eq_getElem?_getD (l := hs.set _ _), List.getElem?_set_self (by omega)] at this
    exact this
  rw [hc]
  unfold markL normH
  by_cases h0 : ((hs.getD (s / 4) []).set (s % 4) 2).count 1 = 0
  · rw [if_pos h0, if_pos h0, hk]
    funext i
    unfold clearN stN stS
    by_cases e : i / 4 = s / 4
    · rw [if_pos ⟨e, by omega⟩, e, List.getD_eq_getElem?_getD (l := hs.set _ _), List.getElem?_set_self (by omega), Option.getD_some, getD_z4]; rfl
    · rw [if_neg (fun h => e h.1), List.getD_eq_getElem?_getD (l := hs.set _ _), List.getElem?_set_ne (Ne.symm e), List.getD_eq_getElem?_getD (l := hs.set _ _), List.getElem?_set_ne (Ne.symm e)]
  · rw [if_neg h0, if_neg h0, hk]
end
end Go.Proofs.YtjkkbceddbkejaaGreatDoor

namespace Go.Proofs.YtjkkbceddbkejaaGreatDoor
open Go.RowKit Sh Go.Maps Go.Extern.Stop Go.Stop Go.Extern

def slF (f : Nat → Nat) (b : Nat) : Nat → List Nat
  | 0 => []
  | j + 1 => slF f b j ++ if f (b + j) = 1 then [b + j] else []
theorem slF_len (f : Nat → Nat) (b : Nat) : ∀ j, (slF f b j).length ≤ j
  | 0 => Nat.le_refl _
  | j + 1 => by have := slF_len f b j; simp only [slF]; split <;> simp <;> omega
def RSlP (L : List Nat) (w : World) (e : Ending) (w' : World) : Prop := ∃ ap cp, e = .returned (.slice ap L.length cp) ∧ w'.ownsRow w.heap.size 3 1 (.slice ap L.length cp) L.length (slI L) ∧ Below w.heap.size w w'
theorem own_cell {w : World} {B : Nat} {ap : Option Addr} {cp : Nat} {L : List Nat} (h : w.ownsRow B 3 1 (.slice ap L.length cp) L.length (slI L)) {k s : Nat} (hk : L[k]? = some s) : ∃ nb, ap = some ⟨nb, 0, none⟩ ∧ w.cell? ⟨nb, k, none⟩ = some (.int .i64 (s : Nat)) := by
  have hl := (List.getElem?_eq_some_iff.1 hk).1
  obtain ⟨h1, h2⟩ := h
  rcases h2 with ⟨_, h0⟩ | ⟨q, cap, cur, hv, _, hq, hn, _, hs, ht⟩
  · omega
  · simp only [Value.slice.injEq] at hv
    refine ⟨q, hv.1, ?_⟩
    rw [cell_of_row w q k _ _ _ hq]
    have e : (cur.toList.take (L.length * 1))[k]? = some (.int .i64 (s : Nat)) := by rw [ht, slI, List.getElem?_map, hk]; rfl
    rw [List.getElem?_take_of_lt (by omega)] at e
    rw [← e, Array.getElem?_toList]
section
variable {m sb bb M : Nat} {hs : Nat → Nat} {bl : Nat → List UInt8} {w w' : World}
theorem RfAt.below (h : RfAt m sb bb M hs bl w) (hb : Below w.heap.size w w') : RfAt m sb bb M hs bl w' := by
  have hc : ∀ {p : Addr} {v : Value}, w.cell? p = some v → w'.cell? p = some v := fun {p v} e => (hb.cell (p := p) (World.block_lt_of_cell? w p e)).trans e
  obtain ⟨c1, t1, k1⟩ := h.sk
  obtain ⟨c2, t2, k2, l2⟩ := h.bk
  exact ⟨hc h.c0, hc h.c1, fun i hi => hc (h.st i hi), fun i hi j v hj => hc (h.pg i hi j v hj), ⟨c1, t1, (hb.block sb (Array.getElem?_eq_some_iff.1 k1).1).trans k1⟩, ⟨c2, t2, (hb.block bb (Array.getElem?_eq_some_iff.1 k2).1).trans k2, l2⟩, h.ne⟩
set_option maxRecDepth 100000 in
set_option maxHeartbeats 16000000 in
theorem rslots_any (h : RfAt m sb bb M hs bl w) (hM : M ≤ 256) {k : Nat} (hk : 4 * k + 4 ≤ M) :
    Calls Tryz.prog 68 #[.pointer (some ⟨m, 0, none⟩), .int .i64 k] w (RSlP (slF hs (4 * k) 4) w) := by
  obtain ⟨i0, hi0, hzz⟩ := Option.map_eq_some_iff.1 infoInt'
  simp only [Prod.mk.injEq] at hzz
  have Hi0 := Lib.hid hi0; have Hzz := Lib.hid hzz
  obtain ⟨B, hB⟩ : ∃ B, w.heap.size = B := ⟨_, rfl⟩
  have HB := Lib.hid hB
  have Hbel := Lib.hid (fun (W : World) (hW : Below w.heap.size w W) => h.below hW)
  obtain ⟨b4, hb4⟩ : ∃ b4, 4 * k = b4 := ⟨_, rfl⟩
  have w4 : IntKind.i64.wrap (4 * (k : Int)) = (b4 : Int) := by rw [IntWalk.i64_in _ (by omega)]; omega
  rw [hb4] at hk ⊢
  clear hi0 hzz hB h hb4
  go_enter Tryz.func68, Tryz.ntmps68
  go_wp2
  go_loopg [6, 5] 4 (fun gm v sv wr => ∃ (j : Nat) (L : List Nat), gm = 4 - j ∧ j ≤ 4 ∧ v = .int .i64 j ∧ L = slF hs b4 j ∧ wr.ownsRow w.heap.size 3 1 sv L.length (slI L) ∧ Below w.heap.size w wr)
  case atStart => exact ⟨0, [], rfl, by omega, rfl, rfl, World.ownsRow_nil _ _ _ _, Below.refl _ _⟩
  case round =>
    obtain ⟨j, L, rfl, hj, rfl, hL, hown, hb⟩ := hrel
    obtain ⟨ap, cp, rfl⟩ := ownForm hown
    have hLj : L.length ≤ j := by rw [hL]; exact slF_len _ _ _
    by_cases hlt : j < 4
    · have hlt' : (j : Int) < 4 := by omega
      have hR := Hbel.out wr hb
      have h0 := hR.c0
      obtain ⟨s, hs'⟩ : ∃ s, b4 + j = s := ⟨_, rfl⟩
      have hsM : s < M := by omega
      have hsM' : (s : Int) < (M : Int) := by omega
      have hcs := hR.st s hsM
      have hst : slF hs b4 (j + 1) = L ++ if hs s = 1 then [s] else [] := by rw [hL, ← hs']; rfl
      have w2 : IntKind.i64.wrap ((b4 : Int) + (j : Int)) = (s : Int) := by rw [IntWalk.i64_in _ (by omega)]; omega
      obtain ⟨C, hC⟩ : ∃ C, hs s = C := ⟨_, rfl⟩
      rw [hC] at hcs hst
      by_cases e : C = 1
      · subst e
        rw [if_pos rfl] at hst
        have hBs : B ≤ wr.heap.size := by have := hb.size; have := HB.out; omega
        obtain ⟨J, hJ⟩ : ∃ J, L.length = J := ⟨_, rfl⟩
        have hJ4 : J ≤ 4 := by omega
        have Hst := Lib.hid hst; have Hb := Lib.hid hb; have HJ := Lib.hid hJ
        obtain ⟨hq0, hq1, hq2⟩ := Hzz.out
        have hi0 := Hi0.out
        rw [HB.out, hJ] at hown
        rw [hJ]
        have hcs : wr.cell? ⟨sb, s, none⟩ = some (.int .i64 1) := hcs
        clear hst hb hL hC hs' hR
        go_wp2_with (at_builtin; refine wpList_append_lies _ rfl _ _ _ rfl B 3 i0 _ 1 8 Tryz.underlying22 hi0 hq0 hq1 hq2 rfl (by omega) _ J _ rfl (hown.alloc _) ⟨wr.heap.size, 0, none⟩ 1 1 [.int .i64 (s : Nat)] rfl rfl (World.news_of_block (cs := #[.int .i64 (s : Nat)]) (t := 3) (fr := (0, 0)) (heap_alloc_new wr _)) (by simp [Value.oneCell']) (by omega) (by unfold maxLen; omega) (by omega) (by simp; omega) (wr.heap.size + 1) (by simp) ?_)
        intro q cap2 w4 hown4 hgr4 hat4 hlt4
        have hbs5 : Below w.heap.size w w4 := by
          have hbs := Hb.out
          refine ⟨hgr4.os.trans hbs.os, hgr4.tape.trans hbs.tape, hgr4.output.trans hbs.output, Nat.le_trans hbs.size (Nat.le_trans (by simp) hgr4.size), fun q hq => ?_⟩
          have := HB.out
          exact (hgr4.block q (by simp; omega) (fun e => by have := (hown.lt q e.symm).1; omega)).trans ((Below.heap_alloc _ _ _ (by omega)).trans (hbs.block q hq))
        have hown5 : w4.ownsRow w.heap.size 3 1 (.slice (some ⟨q, 0, none⟩) (L ++ [s]).length cap2) (L ++ [s]).length (slI (L ++ [s])) := by
          rw [List.length_append, List.length_singleton, HJ.out, HB.out, show slI (L ++ [s]) = slI L ++ [.int .i64 (s : Nat)] by simp [slI]]
          exact hown4
        have hl5 : (L ++ [s]).length = J + 1 := by rw [List.length_append, List.length_singleton, HJ.out]
        rw [hl5] at hown5
        have Hown5 := Lib.hid hown5; have Hbs5 := Lib.hid hbs5; have Hl5 := Lib.hid hl5
        clear hown hown4 hgr4 hat4 hlt4 Hb hown5 hbs5 hq0 hq1 hq2 hi0 hl5 hcs h0
        go_wp2
        go_roundg (4 - (j + 1))
        case measure => omega
        case rel => exact ⟨j + 1, L ++ [s], rfl, by omega, by go_num, Hst.out.symm, by rw [Hl5.out]; exact Hown5.out, Hbs5.out⟩
      · rw [if_neg e, List.append_nil] at hst
        have e2 : ¬ ((C : Int) = 1) := by omega
        have Hst := Lib.hid hst; have Hb := Lib.hid hb; have Hown := Lib.hid hown
        clear hst hb hL hC hown e hR
        go_wp2
        go_roundg (4 - (j + 1))
        case measure => omega
        case rel => exact ⟨j + 1, L, rfl, by omega, by go_num, Hst.out.symm, Hown.out, Hb.out⟩
    · obtain rfl : j = 4 := by omega
      subst hL
      have Hfin := Lib.hid (show RSlP (slF hs b4 4) w (.returned (.slice ap (slF hs b4 4).length cp)) wr from ⟨_, _, rfl, hown, hb⟩)
      clear hb hown hlt
      go_wp2
      go_ret
      exact Hfin.out
end
set_option maxRecDepth 100000 in
set_option maxHeartbeats 16000000 in
/-- Two slices that have the same numbers. -/
theorem rints_any {w : World} (L : List Nat) (a1 a2 : Option Addr) (c1 c2 : Nat) (hl : L.length ≤ 256)
    (h1 : ∀ (k s : Nat), L[k]? = some s → ∃ nb, a1 = some ⟨nb, 0, none⟩ ∧ w.cell? ⟨nb, k, none⟩ = some (.int .i64 (s : Nat)))
    (h2 : ∀ (k s : Nat), L[k]? = some s → ∃ nb, a2 = some ⟨nb, 0, none⟩ ∧ w.cell? ⟨nb, k, none⟩ = some (.int .i64 (s : Nat))) :
    Calls Tryz.prog 67 #[.slice a1 L.length c1, .slice a2 L.length c2] w (RetP (.bool true) w) := by
  obtain ⟨M, hM⟩ : ∃ M, L.length = M := ⟨_, rfl⟩
  have HM := Lib.hid hM
  have H1 := Lib.hid h1; have H2 := Lib.hid h2
  rw [hM] at hl ⊢
  clear hM h1 h2
  go_enter Tryz.func67, Tryz.ntmps67
  go_wp2
  go_loopg [5] M (fun gm vi wr => ∃ i : Nat, gm = M - i ∧ i ≤ M ∧ vi = .int .i64 i ∧ Below w.heap.size w wr)
  case atStart => exact ⟨0, rfl, by omega, rfl, Below.refl _ _⟩
  case round =>
    obtain ⟨i, rfl, hi, rfl, hb⟩ := hrel
    by_cases hlt : i < M
    · have hlt' : (i : Int) < (M : Int) := by omega
      obtain ⟨s, hs'⟩ : ∃ s, L[i]? = some s := ⟨_, List.getElem?_eq_getElem (by rw [HM.out]; exact hlt)⟩
      obtain ⟨n1, rfl, k1⟩ := H1.out i s hs'
      obtain ⟨n2, rfl, k2⟩ := H2.out i s hs'
      have k1 := (hb.cell (p := ⟨n1, i, none⟩) (World.block_lt_of_cell? w _ k1)).trans k1
      have k2 := (hb.cell (p := ⟨n2, i, none⟩) (World.block_lt_of_cell? w _ k2)).trans k2
      have Hb := Lib.hid hb
      clear hb
      go_wp2
      go_quiet (fail)
      go_wp2
      go_roundg (M - (i + 1))
      case measure => omega
      case rel => exact ⟨i + 1, rfl, by omega, by go_num, Hb.out.trans (below_drewN _ _ _)⟩
    · obtain rfl : M = i := by omega
      have hge : ¬ ((M : Int) < (M : Int)) := by omega
      go_wp2
      go_ret
      exact ⟨rfl, hb⟩
end Go.Proofs.YtjkkbceddbkejaaGreatDoor

namespace Go.Proofs.YtjkkbceddbkejaaGreatDoor
open Go.RowKit Sh Go.Maps Go.Extern.Stop Go.Stop Go.Extern

def RfTurn (m sb bb M : Nat) (f : Nat → Nat) (bl : Nat → List UInt8) (w w' : World) : Prop := RfAt m sb bb M f bl w' ∧ Only (fun j => j = sb ∨ j = bb) w w'
def setN (f : Nat → Nat) (s v : Nat) : Nat → Nat := fun i => if i = s then v else f i
section
variable {m sb bb M : Nat} {f : Nat → Nat} {bl : Nat → List UInt8} {w w' : World}
theorem RfAt.thawed (h : RfAt m sb bb M f bl w) (i : Nat) : w.frozen? ⟨sb, i, none⟩ = false := by
  obtain ⟨cur, t, hk⟩ := h.sk
  simp [World.frozen?, hk]
theorem setCell_block {w : World} {g i : Nat} {v : Value} {cur : Array Value} {t : TypeId} (h : w.heap[g]? = some (.cells cur t (0, 0))) : (w.setCell ⟨g, i, none⟩ v).heap[g]? = some (.cells (cur.setIfInBounds i v) t (0, 0)) := by
  simp [World.setCell, Array.getElem?_modify, h]
theorem RfAt.setSt (h : RfAt m sb bb M f bl w) {s : Nat} (hs : s < M) (v : Nat) : RfAt m sb bb M (setN f s v) bl (w.setCell ⟨sb, s, none⟩ (.int .i64 (v : Nat))) := by
  obtain ⟨n1, n2, n3⟩ := h.ne
  have far : ∀ a : Addr, a.block ≠ sb → (w.setCell ⟨sb, s, none⟩ (.int .i64 (v : Nat))).cell? a = w.cell? a := fun a ha => World.cell?_setCell_far w ⟨sb, s, none⟩ a _ (fun e => ha e.symm)
  obtain ⟨cur, t, hk⟩ := h.sk
  obtain ⟨c2, t2, k2, l2⟩ := h.bk
  refine ⟨(far _ n2).trans h.c0, (far _ n2).trans h.c1, fun i hi => ?_, fun i hi j u hj => (far _ (fun e => n1 e.symm)).trans (h.pg i hi j u hj), ⟨_, t, setCell_block hk⟩, ⟨c2, t2, ?_, l2⟩, h.ne⟩
  · unfold setN
    by_cases e : i = s
    · subst e; rw [if_pos rfl]; exact World.cell?_setCell_same _ _ _ (h.st i hi)
    · rw [if_neg e]
      exact (World.cell?_setCell_other w ⟨sb, s, none⟩ ⟨sb, i, none⟩ _ (fun e2 => e (by simp only [Addr.mk.injEq] at e2; omega))).trans (h.st i hi)
  · exact ((grown_setCell w ⟨sb, s, none⟩ (.int .i64 (v : Nat))).block bb (Array.getElem?_eq_some_iff.1 k2).1 (by simp; exact fun e => n1 e.symm)).trans k2
theorem RfAt.setPg (h : RfAt m sb bb M f bl w) (hbl : ∀ i, i < M → (bl i).length = 64) {s : Nat} (hs : s < M) {p : List UInt8} (hp : p.length = 64)
    {cur : List Value} {t : TypeId} (hk : w.heap[bb]? = some (.cells cur.toArray t (0, 0))) (hl : cur.length = M * 64) (hk' : w'.heap[bb]? = some (.cells (splice cur (s * 64) (p.map cu8)).toArray t (0, 0))) (hg : w.grownBy w' (some bb)) :
    RfAt m sb bb M f (updP bl s p) w' := by
  obtain ⟨n1, n2, n3⟩ := h.ne
  have hpl : (p.map cu8).length = 64 := by rw [List.length_map]; exact hp
  have far : ∀ {a : Addr} {v : Value}, a.block ≠ bb → w.cell? a = some v → w'.cell? a = some v := fun {a v} ha e => by
    have hb := hg.block a.block (World.block_lt_of_cell? w a e) (by simpa using ha)
    rw [← e]; unfold World.cell?; rw [hb]
  obtain ⟨c1, t1, k1⟩ := h.sk
  refine ⟨far n3 h.c0, far n3 h.c1, fun i hi => far n1 (h.st i hi), fun i hi j v hj => ?_, ⟨c1, t1, (hg.block sb (Array.getElem?_eq_some_iff.1 k1).1 (by simpa using n1)).trans k1⟩, ⟨_, t, hk', ?_⟩, h.ne⟩
  · have hj64 : j < 64 := by
      have := (List.getElem?_eq_some_iff.1 hj).1
      unfold updP at this
      split at this
      · rw [List.length_map] at this; omega
      · rw [List.length_map, hbl i hi] at this; omega
    rw [cell_of_row w' bb _ _ _ _ hk', List.getElem?_toArray]
    unfold splice
    unfold updP at hj
    by_cases e : i = s
    · subst e
      rw [if_pos rfl] at hj
      rw [List.getElem?_append_right (by rw [List.length_take]; omega), List.length_take, Nat.min_eq_left (by omega), show i * 64 + j - i * 64 = j by omega, List.getElem?_append_left (by omega)]
      exact hj
    · rw [if_neg e] at hj
      have hold : cur[i * 64 + j]? = some v := by
        have := h.pg i hi j v hj
        rw [cell_of_row w bb _ _ _ _ hk, List.getElem?_toArray] at this
        exact this
      rw [← hold]
      by_cases e2 : i < s
      · rw [List.getElem?_append_left (by rw [List.length_take]; omega), List.getElem?_take_of_lt (by omega)]
      · rw [List.getElem?_append_right (by rw [List.length_take]; omega), List.length_take, Nat.min_eq_left (by omega), List.getElem?_append_right (by omega), List.getElem?_drop]
        congr 1; omega
  · unfold splice
    rw [List.length_append, List.length_append, List.length_take, List.length_drop, hpl, Nat.min_eq_left (by omega)]; omega
set_option maxRecDepth 100000 in
set_option maxHeartbeats 16000000 in
theorem rput_any (h : RfAt m sb bb M f bl w) (hM : M ≤ 256) (hbl : ∀ i, i < M → (bl i).length = 64) {s : Nat} (hs : s < M) {p : List UInt8} (hp : p.length = 64) :
    Calls Tryz.prog 59 #[.pointer (some ⟨m, 0, none⟩), .int .i64 (s : Nat), pageV p] w (fun e w' => e = .returned (.tuple #[]) ∧ RfTurn m sb bb M (setN f s 1) (updP bl s p) w w') := by
  obtain ⟨pv, Hpv⟩ : ∃ pv : List Value, Hid (pv = p.map cu8) := ⟨_, rfl⟩
  have hpV : pageV p = .agg pv.toArray := by rw [Hpv.out]; rfl
  have hpl : pv.length = 64 := by rw [Hpv.out, List.length_map]; exact hp
  have Hone : Hid (∀ v ∈ pv.toArray.toList, v.oneCell' = true) := Lib.hid (fun v hv => by
    rw [Hpv.out] at hv
    obtain ⟨c, _, rfl⟩ := List.mem_map.1 (by simpa using hv)
    rfl)
  rw [hpV]
  have hb1 := (Below.refl w.heap.size w).alloc (Nat.le_refl _) (.cells pv.toArray 33)
  have hbox : (w.alloc (.cells pv.toArray 33)).heap[w.heap.size]? = some (.cells pv.toArray 33 (0, 0)) := heap_alloc_new w _
  have hs' : (s : Int) < (M : Int) := by omega
  have hS1 := h.below hb1
  have hlb : sb < w.heap.size ∧ bb < w.heap.size := by
    obtain ⟨c1, t1, k1⟩ := h.sk; obtain ⟨c2, t2, k2, _⟩ := h.bk
    exact ⟨(Array.getElem?_eq_some_iff.1 k1).1, (Array.getElem?_eq_some_iff.1 k2).1⟩
  have ho0 : Only (fun j => j = sb ∨ j = bb) w (w.alloc (.cells pv.toArray 33)) := Only.of_below hb1
  obtain ⟨y, hy⟩ : ∃ y, w.heap.size = y := ⟨_, rfl⟩
  have Hy := Lib.hid hy
  have hl1 : sb < y := by omega
  have hl2 : bb < y := by omega
  clear h hb1 hpV hlb
  go_enter Tryz.func59, Tryz.ntmps59
  go_upto_region 1 with (fail)
  generalize w.alloc (.cells pv.toArray 33) = wa at hbox hS1 ho0 ⊢
  rw [hy] at hbox
  try rw [hy]
  have c0 := hS1.c0
  have cs := hS1.st s hs
  have fz := hS1.thawed s
  have HS1 := Lib.hid hS1
  clear hS1 hy
  go_upto_region 2 with (fail)
  have hS2 := HS1.out.setSt hs 1
  have hg1 := grown_setCell wa ⟨sb, s, none⟩ (.int .i64 1)
  have hbox2 := (hg1.block y (Array.getElem?_eq_some_iff.1 hbox).1 (by simp; omega)).trans hbox
  have ho1 := ho0.trans (Only.of_grown (F := fun j => j = sb ∨ j = bb) hg1 (fun j e => .inl (by simpa using e.symm))) (fun j hj => .inl hj)
  have hS2 : RfAt m sb bb M (setN f s 1) bl (wa.setCell ⟨sb, s, none⟩ (.int .i64 1)) := hS2
  clear c0 cs fz HS1 hg1 hbox ho0
  generalize wa.setCell ⟨sb, s, none⟩ (.int .i64 1) = wb at hS2 hbox2 ho1 ⊢
  refine wp_region_still_tail 7 (by kernel_rfl) (by kernel_rfl) ?_
  have hbd : Below wb.heap.size wb { wb with drawn := wb.drawn + 1 } := (Below.refl _ _).drew
  have hS3 := hS2.below hbd
  have ho2 : Only (fun j => j = sb ∨ j = bb) w { wb with drawn := wb.drawn + 1 } := ho1.drew
  have hbox3 : ({ wb with drawn := wb.drawn + 1 } : World).heap[y]? = some (.cells pv.toArray 33 (0, 0)) := hbox2
  obtain ⟨wc, hdr⟩ : ∃ wc : World, ({ wb with drawn := wb.drawn + 1 } : World) = wc := ⟨_, rfl⟩
  rw [hdr] at hS3 ho2 hbox3 ⊢
  clear hdr hS2 ho1 hbox2 hbd
  have c1 := hS3.c1
  have hrange : wc.rangeAt y 0 pv := fun j v hj => by rw [Nat.zero_add, cell_of_row wc y j _ _ _ hbox3]; simpa using hj
  have HL := Lib.hid (run_loadAt_mid (P := Tryz.prog) wc y 0 33 pv _ hrange Tryz.underlying33 rfl (by rw [hpl]; exact info64))
  have HS3 := Lib.hid hS3
  clear hS3 hrange
  simp only [List.take_succ_cons, List.take_zero, List.drop_succ_cons, List.drop_zero]
  iterate 5 still_step
  refine wpStill_val rfl (v := .agg pv.toArray) ?_ ?_
  · unfold execOp
    rw [Sem.run_bind]
    exact (congrArg (fun r : Result Value => r.andThen fun v w' => (pure (Next.value v) : Sem Next).run Tryz.prog w') HL.out).trans rfl
  still_step
  refine wpStill_nil ?_
  obtain ⟨cur, t, hk, hcl⟩ := HS3.out.bk
  have Hk := Lib.hid hk
  have hfit : Hid (s * 64 + pv.toArray.size ≤ cur.length) := by show s * 64 + pv.toArray.size ≤ cur.length; rw [List.size_toArray]; omega
  have HI : Hid ((Tryz.prog.info? 33).map (·.size) = some pv.toArray.size) := by rw [List.size_toArray, hpl]; exact info64
  clear c1 HL hk
  go_wp2_with (first
    | (refine wpList_store_into rfl 33 _ _ rfl bb (s * 64) pv.toArray rfl rfl cur t Hk.out HI.out hfit.out Hone.out ?_; intro w5 Hs5 Hg5))
  have hS5 : RfAt m sb bb M (setN f s 1) (updP bl s p) w5 := HS3.out.setPg hbl hs hp Hk.out hcl (by rw [← Hpv.out]; exact Hs5.out) Hg5.out
  have ho5 : Only (fun j => j = sb ∨ j = bb) w w5 := ho2.trans (Only.of_grown (F := fun j => j = sb ∨ j = bb) Hg5.out (fun j e => .inr (by simpa using e.symm))) (fun j hj => .inl hj)
  first | go_end0 | refine bodyPost_ret (v := .tuple #[]) (results_none rfl _ _ _) rfl ?_
  exact ⟨rfl, hS5, ho5⟩
theorem clear_step (f : Nat → Nat) (s j : Nat) (hj : j < 4) : clearN f s (j + 1) = setN (clearN f s j) (s / 4 * 4 + j) 0 := by
  funext i
  unfold clearN setN
  show (if i / 4 = s / 4 ∧ i % 4 < j + 1 then 0 else f i) = if i = s / 4 * 4 + j then 0 else if i / 4 = s / 4 ∧ i % 4 < j then 0 else f i
  by_cases e : i = s / 4 * 4 + j
  · rw [if_pos ⟨by omega, by omega⟩, if_pos e]
  · rw [if_neg e]
    by_cases e2 : i / 4 = s / 4 ∧ i % 4 < j
    · rw [if_pos e2, if_pos ⟨e2.1, by omega⟩]
    · rw [if_neg e2, if_neg (fun h => e2 ⟨h.1, by omega⟩)]
theorem clear_none (f : Nat → Nat) (s : Nat) : clearN f s 0 = f := by
  funext i
  unfold clearN
  rw [if_neg (by omega)]
/-- What a drop leaves. -/
def dropN (f : Nat → Nat) (M s : Nat) : Nat → Nat := if cntF (pB (killN f s) ((s / 4 : Nat) : Int) 1) M = 0 then clearN (killN f s) s 4 else killN f s
set_option maxRecDepth 100000 in
set_option maxHeartbeats 16000000 in
/-- Drop of what isn't live. -/
theorem rdrop_no (h : RfAt m sb bb M f bl w) (hM : M ≤ 256) (i : Int) (h0 : hasOf f M i ≠ 0) :
    Calls Tryz.prog 60 #[.pointer (some ⟨m, 0, none⟩), .int .i64 i] w (SameP (.int .i64 (hasOf f M i)) w) := by
  have Hh := Lib.hid (rhas_any h hM i)
  obtain ⟨v, hv⟩ : ∃ v, hasOf f M i = v := ⟨_, rfl⟩
  rw [hv] at Hh h0 ⊢
  clear h hv
  go_enter Tryz.func60, Tryz.ntmps60
  go_wp2_with (first
    | (go_at_call 61; refine Hh.out.mono ?_))
  rintro e w1 ⟨rfl, rfl⟩
  go_wp2
  go_ret
  exact ⟨rfl, rfl⟩
set_option maxRecDepth 100000 in
set_option maxHeartbeats 16000000 in
/-- Drop of a live slot. -/
theorem rdrop_any (h : RfAt m sb bb M f bl w) (hM : M ≤ 256) (hM4 : M % 4 = 0) {s : Nat} (hs : s < M) (hl : f s = 1) :
    Calls Tryz.prog 60 #[.pointer (some ⟨m, 0, none⟩), .int .i64 (s : Nat)] w (fun e w' => e = .returned (.int .i64 0) ∧ RfTurn m sb bb M (dropN f M s) bl w w') := by
  have hh := rhas_any h hM (s : Int)
  have hv : hasOf f M (s : Int) = 0 := by
    unfold hasOf
    rw [if_neg (by omega), Int.toNat_natCast, if_pos hl]
  rw [hv] at hh
  have Hh := Lib.hid hh
  have c0 := h.c0
  have cs := h.st s hs
  have fz := h.thawed s
  have hs' : (s : Int) < (M : Int) := by omega
  have hq := quo4n s
  have hdN : dropN f M s = if cntF (pB (setN f s 2) ((s / 4 : Nat) : Int) 1) M = 0 then clearN (setN f s 2) s 4 else setN f s 2 := rfl
  obtain ⟨FN, hFN⟩ : ∃ FN, dropN f M s = FN := ⟨_, rfl⟩
  rw [hFN] at hdN ⊢
  have hcs := clear_step (setN f s 2) s
  obtain ⟨P, hP⟩ : ∃ P, s / 4 = P := ⟨_, rfl⟩
  have hwP : wrap64 (P : Int) = (P : Int) := IntWalk.wrap64_in _ (by omega)
  rw [hP] at hq hcs hdN
  have HdN := Lib.hid hdN
  have H := Lib.hid h
  have Hcs := Lib.hid hcs
  have hP4 : P * 4 + 4 ≤ M := by omega
  clear h hh hv hl hdN hcs hFN hP
  go_enter Tryz.func60, Tryz.ntmps60
  go_wp2_with (first
    | (go_at_call 61; refine Hh.out.mono ?_))
  rintro e w1 ⟨rfl, rfl⟩
  go_upto_region 5 with (fail)
  have hS2 : RfAt m sb bb M (setN f s 2) bl (w1.setCell ⟨sb, s, none⟩ (.int .i64 2)) := H.out.setSt hs 2
  have hg1 := grown_setCell w1 ⟨sb, s, none⟩ (.int .i64 2)
  have ho1 : Only (fun j => j = sb ∨ j = bb) w1 (w1.setCell ⟨sb, s, none⟩ (.int .i64 2)) := Only.of_grown (F := fun j => j = sb ∨ j = bb) hg1 (fun j e => .inl (by simpa using e.symm))
  generalize w1.setCell ⟨sb, s, none⟩ (.int .i64 2) = wb at hS2 ho1 ⊢
  have hct := rcount_any hS2 hM (P : Int) 1
  obtain ⟨C, hC⟩ : ∃ C, cntF (pB (setN f s 2) (P : Int) 1) M = C := ⟨_, rfl⟩
  rw [hC] at hct
  have hdN := HdN.out
  rw [hC] at hdN
  have Hct := Lib.hid hct; have HS2 := Lib.hid hS2; have Ho1 := Lib.hid ho1
  have hcl0 := clear_none (setN f s 2) s
  clear c0 cs fz hct hS2 ho1 hg1 hC Hh HdN
  by_cases hC0 : C = 0
  · subst hC0
    rw [if_pos rfl] at hdN
    subst hdN
    have hct : Calls Tryz.prog 65 #[.pointer (some ⟨m, 0, none⟩), .int .i64 (P : Int), .int .i64 1] wb (SameP (.int .i64 0) wb) := Hct.out
    have Hct := Lib.hid hct
    clear hct
    go_wp2_with (first
      | (go_at_call 65; refine Hct.out.mono ?_))
    rintro e w2 ⟨rfl, rfl⟩
    go_wp2
    go_loopg [6] 4 (fun gm v wr => ∃ j : Nat, gm = 4 - j ∧ j ≤ 4 ∧ v = .int .i64 j ∧ RfAt m sb bb M (clearN (setN f s 2) s j) bl wr ∧ Only (fun j => j = sb ∨ j = bb) w1 wr)
    case atStart => exact ⟨0, rfl, by omega, rfl, by rw [hcl0]; exact HS2.out, Ho1.out⟩
    case round =>
      clear HS2 Ho1 hcl0
      obtain ⟨j, rfl, hj, rfl, hS, hO⟩ := hrel
      by_cases hlt : j < 4
      · have hlt' : (j : Int) < 4 := by omega
        obtain ⟨r, hr⟩ : ∃ r, P * 4 + j = r := ⟨_, rfl⟩
        have hrM : r < M := by omega
        have hrM' : (r : Int) < (M : Int) := by omega
        have w1' : IntKind.i64.wrap ((P : Int) * 4) = (P : Int) * 4 := IntWalk.i64_in _ (by omega)
        have w2' : IntKind.i64.wrap ((P : Int) * 4 + (j : Int)) = (r : Int) := by rw [IntWalk.i64_in _ (by omega)]; omega
        have c0 := hS.c0
        have cr := hS.st r hrM
        have fz := hS.thawed r
        have hst := Hcs.out j hlt
        rw [hr] at hst
        have hSn : RfAt m sb bb M (clearN (setN f s 2) s (j + 1)) bl (wr.setCell ⟨sb, r, none⟩ (.int .i64 0)) := by rw [hst]; exact hS.setSt hrM 0
        have hOn : Only (fun j => j = sb ∨ j = bb) w1 (wr.setCell ⟨sb, r, none⟩ (.int .i64 0)) := hO.trans (Only.of_grown (F := fun j => j = sb ∨ j = bb) (grown_setCell wr ⟨sb, r, none⟩ (.int .i64 0)) (fun j e => .inl (by simpa using e.symm))) (fun j hj => .inl hj)
        have HSn := Lib.hid hSn; have HOn := Lib.hid hOn
        clear hS hO hst hSn hOn hr
        go_wp2
        go_roundg (4 - (j + 1))
        case measure => omega
        case rel => exact ⟨j + 1, rfl, by omega, by go_num, HSn.out, HOn.out⟩
      · obtain rfl : j = 4 := by omega
        have HS := Lib.hid hS; have HO := Lib.hid hO
        clear hS hO
        go_wp2
        go_ret
        exact ⟨rfl, HS.out, HO.out⟩
  · have hC0' : ¬ ((C : Int) = 0) := by omega
    rw [if_neg hC0] at hdN
    subst hdN
    go_wp2_with (first
      | (go_at_call 65; refine Hct.out.mono ?_))
    rintro e w2 ⟨rfl, rfl⟩
    go_wp2
    go_ret
    exact ⟨rfl, HS2.out, Ho1.out⟩
end
end Go.Proofs.YtjkkbceddbkejaaGreatDoor

namespace Go.Proofs.YtjkkbceddbkejaaGreatDoor
open Go.RowKit Sh Go.Maps Go.Extern.Stop Go.Stop Go.Extern

theorem make_ints (M : Nat) (hM : M ≤ 4096) (w : World) :
    (Instr.makeSlice 22 (.int .i64 (M : Int)) (.int .i64 (M : Int))).run Tryz.prog w = .ok (.slice (some ⟨w.heap.size, 0, none⟩) M M) (w.alloc (.cells (List.replicate M (Value.int .i64 0)).toArray 3)) := by
  obtain ⟨i, hi, hzz⟩ := Option.map_eq_some_iff.1 infoInt'
  simp only [Prod.mk.injEq] at hzz
  obtain ⟨hz, hs, hb⟩ := hzz
  have h := run_make (P := Tryz.prog) w 22 3 i (.int .i64 0) Tryz.underlying22 hi hz .i64 .i64 M M (by omega) (Int.le_refl _) (by rw [hb]; omega) (by omega)
  rw [hs] at h
  rw [h]
  rw [show madeCells (Value.int IntKind.i64 0).cells ((M : Int).toNat * 1) = (List.replicate M (Value.int .i64 0)).toArray from by
    rw [Int.toNat_natCast, Nat.mul_one]
    apply Array.ext
    · simp [madeCells]
    · intro i h1 h2
      simp only [madeCells, Array.getElem_map, Array.getElem_range, List.getElem_toArray, List.getElem_replicate]
      show (#[Value.int IntKind.i64 0] : Array Value)[i % 1]! = _
      rw [Nat.mod_one]; rfl]
  rfl
def RfNewP (M : Nat) (w : World) (e : Ending) (w' : World) : Prop := ∃ m sb bb, e = .returned (.pointer (some ⟨m, 0, none⟩)) ∧ RfAt m sb bb M (fun _ => 0) (fun _ => List.replicate 64 0) w' ∧ Below w.heap.size w w' ∧ w.heap.size ≤ m ∧ w.heap.size ≤ sb ∧ w.heap.size ≤ bb
theorem zeros_at {M i j : Nat} {v : Value} (hi : i < M) (hj : ((List.replicate 64 (0 : UInt8)).map cu8)[j]? = some v) : (List.replicate M zeroPage).flatten[i * 64 + j]? = some v := by
  have hj64 : j < 64 := by have := (List.getElem?_eq_some_iff.1 hj).1; simpa using this
  rw [zero_flat, List.getElem?_replicate, if_pos (by omega)]
  rw [List.map_replicate, List.getElem?_replicate, if_pos hj64] at hj
  exact hj
theorem rfnew_fin {W : World} {m sb bb M : Nat} (hs : W.heap[sb]? = some (.cells (List.replicate M (Value.int .i64 0)).toArray 3 (0, 0))) (hb : W.heap[bb]? = some (.cells (List.replicate M zeroPage).flatten.toArray 33 (0, 0)))
    (hm : W.heap[m]? = some (.cells #[.slice (some ⟨sb, 0, none⟩) M M, .slice (some ⟨bb, 0, none⟩) M M] 75 (0, 0))) (ne : sb ≠ bb ∧ m ≠ sb ∧ m ≠ bb) : RfAt m sb bb M (fun _ => 0) (fun _ => List.replicate 64 0) W := by
  refine ⟨by rw [cell_of_row W m 0 _ _ _ hm]; rfl, by rw [cell_of_row W m 1 _ _ _ hm]; rfl, fun i hi => ?_, fun i hi j v hj => ?_, ⟨_, _, hs⟩, ⟨_, _, hb, by rw [zero_flat, List.length_replicate]⟩, ne⟩
  · rw [cell_of_row W sb i _ _ _ hs, List.getElem?_toArray, List.getElem?_replicate, if_pos hi]; rfl
  · rw [cell_of_row W bb _ _ _ _ hb, List.getElem?_toArray]; exact zeros_at hi hj
theorem alloc3 (w : World) (A B C : Obj) : ((((w.alloc A).alloc B).alloc C).drew).heap[w.heap.size]? = some A ∧ ((((w.alloc A).alloc B).alloc C).drew).heap[w.heap.size + 1]? = some B ∧ ((((w.alloc A).alloc B).alloc C).drew).heap[w.heap.size + 1 + 1]? = some C ∧ Below w.heap.size w (((w.alloc A).alloc B).alloc C).drew := by
  have s1 : (w.alloc A).heap.size = w.heap.size + 1 := by simp
  have s2 : ((w.alloc A).alloc B).heap.size = w.heap.size + 1 + 1 := by simp
  have hb1 := (Below.refl w.heap.size w).alloc (Nat.le_refl _) A
  have hb2 := hb1.alloc (by omega) B
  have hb3 := hb2.alloc (by omega) C
  refine ⟨?_, ?_, ?_, hb3.drew⟩
  · show (((w.alloc A).alloc B).alloc C).heap[w.heap.size]? = some A
    exact (Below.heap_alloc _ _ _ (by omega)).trans ((Below.heap_alloc _ _ _ (by omega)).trans (heap_alloc_new w A))
  · show (((w.alloc A).alloc B).alloc C).heap[w.heap.size + 1]? = some B
    rw [← s1]
    exact (Below.heap_alloc _ _ _ (by omega)).trans (heap_alloc_new (w.alloc A) B)
  · show (((w.alloc A).alloc B).alloc C).heap[w.heap.size + 1 + 1]? = some C
    rw [← s2]
    exact heap_alloc_new ((w.alloc A).alloc B) C
set_option maxRecDepth 100000 in
set_option maxHeartbeats 16000000 in
theorem rnew7_any (n : Nat) (h2 : n ≤ 64) (w : World) : Calls Tryz.prog 28 #[.int .i64 n] w (RfNewP (4 * n) w) := by
  obtain ⟨M, hM⟩ : ∃ M, 4 * n = M := ⟨_, rfl⟩
  have hM2 : M ≤ 256 := by omega
  have w4 : IntKind.i64.wrap (4 * (n : Int)) = (M : Int) := by rw [IntWalk.i64_in _ (by omega)]; omega
  rw [hM]
  have m1 := make_ints M (by omega)
  have m2 := make_pages M (by omega)
  obtain ⟨cs, Hcs⟩ : ∃ cs : Array Value, Hid (cs = (List.replicate M zeroPage).flatten.toArray) := ⟨_, rfl⟩
  rw [← Hcs.out] at m2
  obtain ⟨ci, Hci⟩ : ∃ ci : Array Value, Hid (ci = (List.replicate M (Value.int .i64 0)).toArray) := ⟨_, rfl⟩
  rw [← Hci.out] at m1
  clear hM
  go_enter Tryz.func28, Tryz.ntmps28
  go_wp2
  go_region
  · have h3 := alloc3 w (.cells ci 3) (.cells cs 33) (.cells #[.slice (some ⟨w.heap.size, 0, none⟩) M M, .slice (some ⟨w.heap.size + 1, 0, none⟩) M M] 75)
    have H3 := Lib.hid h3
    clear h3 m1 m2
    go_wp2
    go_ret
    obtain ⟨x1, x2, x3, x4⟩ := H3.out
    exact ⟨w.heap.size + 1 + 1, w.heap.size, w.heap.size + 1, rfl, rfnew_fin (by rw [← Hci.out]; exact x1) (by rw [← Hcs.out]; exact x2) x3 ⟨by omega, by omega, by omega⟩, x4, by omega, by omega, by omega⟩
  · have h3 := alloc3 w (.cells cs 33) (.cells ci 3) (.cells #[.slice (some ⟨w.heap.size + 1, 0, none⟩) M M, .slice (some ⟨w.heap.size, 0, none⟩) M M] 75)
    have H3 := Lib.hid h3
    clear h3 m1 m2
    go_wp2
    go_ret
    obtain ⟨x1, x2, x3, x4⟩ := H3.out
    exact ⟨w.heap.size + 1 + 1, w.heap.size + 1, w.heap.size, rfl, rfnew_fin (by rw [← Hci.out]; exact x2) (by rw [← Hcs.out]; exact x1) x3 ⟨by omega, by omega, by omega⟩, x4, by omega, by omega, by omega⟩
end Go.Proofs.YtjkkbceddbkejaaGreatDoor

namespace Go.Proofs.YtjkkbceddbkejaaGreatDoor
open Go.RowKit Sh Go.Maps Go.Extern.Stop Go.Stop Go.Extern

def RfT (x : Nat × Obj) (m sb bb M : Nat) (T : List (Nat × Obj)) (f : Nat → Nat) (bl : Nat → List UInt8) : Prop :=
  ∃ om os ob, T = [(m, om), (sb, os), (bb, ob), x] ∧ (m ≠ x.1 ∧ sb ≠ x.1 ∧ bb ≠ x.1) ∧ ∀ w : World, w.heap[m]? = some om → w.heap[sb]? = some os → w.heap[bb]? = some ob → RfAt m sb bb M f bl w
section
variable {m sb bb M : Nat} {f f' : Nat → Nat} {bl bl' : Nat → List UInt8} {w w' w0 : World} {b : Bk} {gd g : Nat} {x : Nat × Obj} {T : List (Nat × Obj)}
theorem cell_eq {w w' : World} {p : Addr} (e : w'.heap[p.block]? = w.heap[p.block]?) : w'.cell? p = w.cell? p := by unfold World.cell?; rw [e]
theorem RfAt.blocks (h : RfAt m sb bb M f bl w) (e1 : w'.heap[m]? = w.heap[m]?) (e2 : w'.heap[sb]? = w.heap[sb]?) (e3 : w'.heap[bb]? = w.heap[bb]?) : RfAt m sb bb M f bl w' := by
  obtain ⟨c1, t1, k1⟩ := h.sk
  obtain ⟨c2, t2, k2, l2⟩ := h.bk
  exact ⟨(cell_eq (p := ⟨m, 0, none⟩) e1).trans h.c0, (cell_eq (p := ⟨m, 1, none⟩) e1).trans h.c1, fun i hi => (cell_eq (p := ⟨sb, i, none⟩) e2).trans (h.st i hi), fun i hi j v hj => (cell_eq (p := ⟨bb, i * 64 + j, none⟩) e3).trans (h.pg i hi j v hj), ⟨c1, t1, e2.trans k1⟩, ⟨c2, t2, e3.trans k2, l2⟩, h.ne⟩
theorem RfAt.lt (h : RfAt m sb bb M f bl w) : m < w.heap.size ∧ sb < w.heap.size ∧ bb < w.heap.size := by
  obtain ⟨c1, t1, k1⟩ := h.sk
  obtain ⟨c2, t2, k2, l2⟩ := h.bk
  exact ⟨World.block_lt_of_cell? w _ h.c0, (Array.getElem?_eq_some_iff.1 k1).1, (Array.getElem?_eq_some_iff.1 k2).1⟩
theorem RfT.mem (h : RfT x m sb bb M T f bl) : x ∈ T := by obtain ⟨_, _, _, rfl, _⟩ := h; simp
theorem RfT.get (h : RfT x m sb bb M T f bl) (hX : OwnX b gd g T w0 w) : RfAt m sb bb M f bl w := by
  obtain ⟨om, os, ob, rfl, _, hh⟩ := h
  exact hh w (hX.at_ (x := (m, om)) (by simp)) (hX.at_ (x := (sb, os)) (by simp)) (hX.at_ (x := (bb, ob)) (by simp))
theorem RfT.made (hX : OwnX b gd g [x] w0 w) (hR : RfAt m sb bb M f bl w') (hb : Below w.heap.size w w') (h1 : w.heap.size ≤ m) (h2 : w.heap.size ≤ sb) (h3 : w.heap.size ≤ bb) : ∃ T, OwnX b gd g T w0 w' ∧ RfT x m sb bb M T f bl := by
  obtain ⟨Fd, gr, bn, bt, hi, hF⟩ := hX.ex
  have hx := hX.below hb
  have hxl := hX.arr.lt (x := x) (by simp)
  obtain ⟨l1, l2, l3⟩ := hR.lt
  obtain ⟨om, hom⟩ : ∃ o, w'.heap[m]? = some o := ⟨_, Array.getElem?_eq_getElem l1⟩
  obtain ⟨os, hos⟩ : ∃ o, w'.heap[sb]? = some o := ⟨_, Array.getElem?_eq_getElem l2⟩
  obtain ⟨ob, hob⟩ : ∃ o, w'.heap[bb]? = some o := ⟨_, Array.getElem?_eq_getElem l3⟩
  have hbs := hX.bel.size
  refine ⟨[(m, om), (sb, os), (bb, ob), x], ⟨⟨Fd, gr, bn, bt, hi.below hb, fun j hj => ⟨(hF j hj).1, fun y hy => ?_⟩⟩, hx.bel, fun y hy => ?_⟩, om, os, ob, rfl, ⟨by omega, by omega, by omega⟩, fun W e1 e2 e3 => hR.blocks (e1.trans hom.symm) (e2.trans hos.symm) (e3.trans hob.symm)⟩
  · have hjl := hi.foot_lt hj
    simp only [List.mem_cons, List.not_mem_nil, or_false] at hy
    rcases hy with rfl | rfl | rfl | rfl
    · show j ≠ m; omega
    · show j ≠ sb; omega
    · show j ≠ bb; omega
    · exact (hF j hj).2 y (by simp)
  · simp only [List.mem_cons, List.not_mem_nil, or_false] at hy
    rcases hy with rfl | rfl | rfl | rfl
    · exact ⟨hom, by show w0.heap.size ≤ m; omega⟩
    · exact ⟨hos, by show w0.heap.size ≤ sb; omega⟩
    · exact ⟨hob, by show w0.heap.size ≤ bb; omega⟩
    · exact hx.arr y (by simp)
theorem RfT.turn (h : RfT x m sb bb M T f bl) (hX : OwnX b gd g T w0 w) (hR : RfTurn m sb bb M f' bl' w w') : ∃ T', OwnX b gd g T' w0 w' ∧ RfT x m sb bb M T' f' bl' := by
  have hw := h.get hX
  obtain ⟨om, os, ob, rfl, ⟨hn1, hn2, hn3⟩, hh⟩ := h
  obtain ⟨hR', ho⟩ := hR
  obtain ⟨ne1, ne2, ne3⟩ := hR'.ne
  obtain ⟨l1, l2, l3⟩ := hw.lt
  obtain ⟨k1, k2, k3⟩ := hR'.lt
  obtain ⟨os', hos⟩ : ∃ o, w'.heap[sb]? = some o := ⟨_, Array.getElem?_eq_getElem k2⟩
  obtain ⟨ob', hob⟩ : ∃ o, w'.heap[bb]? = some o := ⟨_, Array.getElem?_eq_getElem k3⟩
  have am := hX.arr (m, om) (by simp)
  have a_s := hX.arr (sb, os) (by simp)
  have ab := hX.arr (bb, ob) (by simp)
  have ax := hX.arr x (by simp)
  have hom : w'.heap[m]? = some om := (ho.block m l1 (fun e => e.elim ne2 ne3)).trans am.1
  have hox : w'.heap[x.1]? = some x.2 := (ho.block x.1 (Array.getElem?_eq_some_iff.1 ax.1).1 (fun e => e.elim (fun e => hn2 e.symm) (fun e => hn3 e.symm))).trans ax.1
  obtain ⟨Fd, gr, bn, bt, hi, hF⟩ := hX.ex
  refine ⟨[(m, om), (sb, os'), (bb, ob'), x], ⟨⟨Fd, gr, bn, bt, hi.only ho (fun j hj e => e.elim (fun e => (hF j hj).2 (sb, os) (by simp) e) (fun e => (hF j hj).2 (bb, ob) (by simp) e)), fun j hj => ⟨(hF j hj).1, fun y hy => ?_⟩⟩,
    hX.bel.trans (ho.base hX.bel.size (fun j hj => hj.elim (fun e => by rw [e]; exact a_s.2) (fun e => by rw [e]; exact ab.2))), fun y hy => ?_⟩, om, os', ob', rfl, ⟨hn1, hn2, hn3⟩, fun W e1 e2 e3 => hR'.blocks (e1.trans hom.symm) (e2.trans hos.symm) (e3.trans hob.symm)⟩
  · simp only [List.mem_cons, List.not_mem_nil, or_false] at hy
    rcases hy with rfl | rfl | rfl | rfl
    · exact (hF j hj).2 (m, om) (by simp)
    · exact (hF j hj).2 (sb, os) (by simp)
    · exact (hF j hj).2 (bb, ob) (by simp)
    · exact (hF j hj).2 y (by simp)
  · simp only [List.mem_cons, List.not_mem_nil, or_false] at hy
    rcases hy with rfl | rfl | rfl | rfl
    · exact ⟨hom, am.2⟩
    · exact ⟨hos, a_s.2⟩
    · exact ⟨hob, ab.2⟩
    · exact ⟨hox, ax.2⟩
end
section
variable {m sb bb xd first n gd g : Nat} {hs : List (List UInt8)} {bl : Nat → List UInt8} {w w0 : World} {b : Bk} {T : List (Nat × Obj)}
theorem slots_ref (hs : List (List UInt8)) {k : Nat} (hl : (hs.getD k []).length = 4) : ∀ j, j ≤ 4 → slF (stN hs) (4 * k) j = slotsH (k * 4) (hs.getD k []) j
  | 0, _ => rfl
  | j + 1, hj => by
    obtain ⟨c, hc⟩ : ∃ c, (hs.getD k [])[j]? = some c := ⟨_, List.getElem?_eq_getElem (by omega)⟩
    rw [slotsH_step (base := k * 4) hc, ← slots_ref hs hl j (by omega)]
    simp only [slF]
    rw [stN_in (by omega), List.getD_eq_getElem?_getD (l := hs.getD k []), hc, Option.getD_some, show 4 * k + j = k * 4 + j by omega]
    by_cases e : c = 1
    · rw [if_pos e, if_pos (by rw [e]; rfl)]
    · have e' : ¬ c.toNat = 1 := fun h => e (UInt8.toNat_inj.1 h)
      rw [if_neg e, if_neg e']
set_option maxRecDepth 100000 in
set_option maxHeartbeats 16000000 in
theorem alike_any (h : OwnX b gd g T w0 w) (hD : De b first n hs bl) (hf : first ≤ 2000) (hn : n ≤ 64) (hR : RfT (xd, depO g first n) m sb bb (4 * n) T (stN hs) bl) :
    Calls Tryz.prog 31 #[.pointer (some ⟨xd, 0, none⟩), .pointer (some ⟨m, 0, none⟩)] w (RetP (.bool true) w) := by
  have hct := h.dCount hR.mem hD hf hn
  obtain ⟨M, hM⟩ : ∃ M, 4 * n = M := ⟨_, rfl⟩
  have hM2 : M ≤ 256 := by omega
  have c1 : cntF (pB (stN hs) (-1) 1) (4 * n) = cntA 1 hs := cnt_whole hD.hd hD.len 1
  have c2 : cntF (pB (stN hs) (-1) 2) (4 * n) = cntA 2 hs := cnt_whole hD.hd hD.len 2
  have c3 : cntF (pB (stN hs) (-1) 0) (4 * n) = cntA 0 hs := cnt_whole hD.hd hD.len 0
  have cw : wF (stN hs) (4 * n) (4 * n / 4) = worstL hs := by rw [show 4 * n / 4 = n by omega]; exact worst_ref hD.hd hD.len
  obtain ⟨A1, hA1⟩ : ∃ A, cntA 1 hs = A := ⟨_, rfl⟩
  obtain ⟨A2, hA2⟩ : ∃ A, cntA 2 hs = A := ⟨_, rfl⟩
  obtain ⟨A3, hA3⟩ : ∃ A, cntA 0 hs = A := ⟨_, rfl⟩
  obtain ⟨W1, hW1⟩ : ∃ A, (worstL hs).1 = A := ⟨_, rfl⟩
  obtain ⟨W2, hW2⟩ : ∃ A, (worstL hs).2 = A := ⟨_, rfl⟩
  rw [hA1, hA2, hA3] at hct
  rw [hA1] at c1; rw [hA2] at c2; rw [hA3] at c3
  rw [hM] at c1 c2 c3 cw hR
  have Hct := Lib.hid hct
  have Hwo := Lib.hid (fun W (hX : OwnX b gd g T w0 W) => hX.dWorst hR.mem hD hf hn)
  have Hrw := Lib.hid (fun W (hX : OwnX b gd g T w0 W) => rworst_any (hR.get hX) hM2)
  rw [hW1, hW2] at Hwo
  rw [cw, hW1, hW2] at Hrw
  have Hc1 := Lib.hid (fun W (hX : OwnX b gd g T w0 W) => rcount_any (hR.get hX) hM2 (-1) 1)
  have Hc2 := Lib.hid (fun W (hX : OwnX b gd g T w0 W) => rcount_any (hR.get hX) hM2 (-1) 2)
  have Hc3 := Lib.hid (fun W (hX : OwnX b gd g T w0 W) => rcount_any (hR.get hX) hM2 (-1) 0)
  rw [c1] at Hc1; rw [c2] at Hc2; rw [c3] at Hc3
  have HX := Lib.hid h; have HD := Lib.hid hD; have HR := Lib.hid hR
  have HM := Lib.hid hM
  have hq := quo4n M
  rw [show M / 4 = n by omega] at hq
  have hwn : wrap64 (n : Int) = (n : Int) := IntWalk.wrap64_in _ (by omega)
  clear hct c1 c2 c3 cw hA1 hA2 hA3 hW1 hW2 h hD hR hM
  go_enter Tryz.func31, Tryz.ntmps31
  go_wp2_with (first
    | (go_at_call 14; refine Hct.out.mono ?_))
  rintro e w1 ⟨rfl, hb1⟩
  have hX1 := HX.out.below hb1
  have Hwo1 := Lib.hid (Hwo.out w1 hX1)
  have HX1 := Lib.hid hX1; have Hbe1 := Lib.hid hb1
  clear hb1 hX1 Hwo Hct HX
  go_wp2_with (first
    | (go_at_call 63; refine Hwo1.out.mono ?_))
  rintro e w2 ⟨v2, rfl, hE2, hb2⟩
  obtain rfl := ErrV.zero hE2
  have hX2 := HX1.out.below hb2
  have Hrw2 := Lib.hid (Hrw.out w2 hX2)
  have Hc12 := Lib.hid (Hc1.out w2 hX2); have Hc22 := Lib.hid (Hc2.out w2 hX2); have Hc32 := Lib.hid (Hc3.out w2 hX2)
  have c0 := (HR.out.get hX2).c0
  have HX2 := Lib.hid hX2; have Hbe2 := Lib.hid (Hbe1.out.trans (hb2.mono Hbe1.out.size))
  clear Hbe1 hE2 hb2 hX2 Hwo1 HX1 Hrw Hc1 Hc2 Hc3
  go_wp2_with (first
    | (go_at_call 64; refine Hrw2.out.mono ?_; rintro e w3 ⟨rfl, rfl⟩)
    | (go_at_call_of 65 (Value.int .i64 1); refine Hc12.out.mono ?_; rintro e w3 ⟨rfl, rfl⟩)
    | (go_at_call_of 65 (Value.int .i64 2); refine Hc22.out.mono ?_; rintro e w3 ⟨rfl, rfl⟩)
    | (go_at_call_of 65 (Value.int .i64 0); refine Hc32.out.mono ?_; rintro e w3 ⟨rfl, rfl⟩))
  clear Hrw2 Hc12 Hc22 Hc32 c0
  rename World => w2
  go_loopg [75] n (fun gm v wr => ∃ k : Nat, gm = n - k ∧ k ≤ n ∧ v = .int .i64 k ∧ OwnX b gd g T w0 wr ∧ Below w.heap.size w wr)
  case atStart => exact ⟨0, rfl, by omega, rfl, HX2.out, Hbe2.out⟩
  case round =>
    clear HX2 Hbe2
    obtain ⟨k, rfl, hk, rfl, hX, hb⟩ := hrel
    by_cases hlt : k < n
    · have hlt' : (k : Int) < (n : Int) := by omega
      have hhd := (HD.out.hd _ (getD_mem (hs := hs) (k := k) (by rw [HD.out.len]; exact hlt)).1).len
      have hsl := hX.dSlots HR.out.mem HD.out hf hn hlt
      have hL4 := slF_len (stN hs) (4 * k) 4
      have hsr := slots_ref hs hhd 4 (Nat.le_refl _)
      obtain ⟨Lq, hLq⟩ : ∃ Lq, slF (stN hs) (4 * k) 4 = Lq := ⟨_, rfl⟩
      rw [hLq] at hL4 hsr
      rw [← hsr] at hsl
      have Hsl := Lib.hid hsl; have HLq := Lib.hid hLq
      have Hb := Lib.hid hb; have HX := Lib.hid hX
      clear hsl hsr hhd hLq hb hX
      go_wp2_with (first
        | (go_at_call 66; refine Hsl.out.mono ?_))
      rintro e w3 ⟨a1, p1, v3, rfl, hE3, hown3, hb3⟩
      obtain rfl := ErrV.zero hE3
      have hX3 := HX.out.below hb3
      have hrs := rslots_any (HR.out.get hX3) hM2 (k := k) (by have := HM.out; omega)
      rw [HLq.out] at hrs
      have Hrs := Lib.hid hrs
      have Hown3 := Lib.hid hown3; have HX3 := Lib.hid hX3; have Hb3 := Lib.hid (Hb.out.trans (hb3.mono Hb.out.size))
      obtain ⟨L4, hL4'⟩ : ∃ L4, Lq.length = L4 := ⟨_, rfl⟩
      have HL4 := Lib.hid hL4'
      have hL4b : L4 ≤ 4 := by omega
      rw [hL4']
      clear hE3 hrs hown3 hX3 hb3 Hsl HX Hb hL4'
      go_wp2_with (first
        | (go_at_call 68; refine Hrs.out.mono ?_))
      rintro e w4 ⟨a2, p2, rfl, hown4, hb4⟩
      have hX4 := HX3.out.below hb4
      have hin := rints_any (w := w4) Lq a1 a2 p1 p2 (by omega) (fun k s hk => by
        obtain ⟨nb, e, hc⟩ := own_cell Hown3.out hk
        exact ⟨nb, e, (hb4.cell (p := ⟨nb, k, none⟩) (World.block_lt_of_cell? w3 _ hc)).trans hc⟩) (fun k s hk => own_cell hown4 hk)
      rw [HL4.out] at hin
      have Hin := Lib.hid hin
      have HX4 := Lib.hid hX4; have Hb4 := Lib.hid (Hb3.out.trans (hb4.mono Hb3.out.size))
      rw [HL4.out]
      clear hown4 hb4 hX4 hin Hrs Hown3 HX3 Hb3
      go_wp2_with (first
        | (go_at_call 67; refine Hin.out.mono ?_))
      rintro e w5 ⟨rfl, hb5⟩
      have HX5 := Lib.hid (HX4.out.below hb5); have Hb5 := Lib.hid (Hb4.out.trans (hb5.mono Hb4.out.size))
      clear hb5 Hin HX4 Hb4
      go_wp2
      go_roundg (n - (k + 1))
      case measure => omega
      case rel => exact ⟨k + 1, rfl, by omega, by go_num, HX5.out, Hb5.out⟩
    · obtain rfl : k = n := by omega
      have hge : ¬ ((k : Int) < (k : Int)) := by omega
      have Hb := Lib.hid hb
      clear hb hX
      go_wp2
      go_ret
      exact ⟨rfl, Hb.out⟩
end
end Go.Proofs.YtjkkbceddbkejaaGreatDoor
