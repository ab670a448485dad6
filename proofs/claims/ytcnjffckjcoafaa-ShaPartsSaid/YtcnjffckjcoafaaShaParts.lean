/-
  'ShaParts': its walk.
-/
import Derived.Test.YtcnjffckjcoafaaShaTwo
namespace Go.Proofs.Ytcnjffckjcoafaa
open Go.RowKit Sh

theorem run_neq_dig (m : List UInt8) (xs ys : Array Value) (hx : Hid (xs = ((dig m).map cu8).toArray)) (hy : Hid (ys = ((dig m).map cu8).toArray)) (w : World) : (binOp .neq 24 (.agg xs) (.agg ys)).run Try.prog w = .ok (.bool false) w := by
  have h := run_eql_dig m xs ys hx hy w
  rw [run_eql_struct] at h
  rw [run_neq_struct]
  generalize (Op.equalIn 10000 24 (.agg xs) (.agg ys)).run Try.prog w = r at h ⊢
  cases r with
  | ok b w' =>
    simp only [Result.andThen_ok, Result.ok.injEq, Value.bool.injEq] at h ⊢
    obtain ⟨rfl, rfl⟩ := h
    exact ⟨rfl, rfl⟩
  | halt x w' => simp [Result.andThen] at h

/-- A slice of slices of bytes. -/
def Pieces (N : Nat) (w : World) (lp : Option Addr) (len : Nat) (A : Nat → Option Addr) (L C : Nat → Nat) (B : Nat → List UInt8) : Prop :=
  len = 0 ∨ ∃ b o, lp = some ⟨b, o, none⟩ ∧ b < N ∧ ∀ r, r < len → w.cell? ⟨b, o + r, none⟩ = some (.slice (A r) (L r) (C r)) ∧ Bytes N w (A r) (L r) (C r) (B r) ∧ L r ≤ 140737488351232

/-- A hash to which m was written; m in a row of the call's own. -/
structure PaI (w : World) (gs base n : Nat) (m : List UInt8) (v : Value) (wr : World) : Prop where
  below : Below w.heap.size w wr
  hs : HashAt wr gs m
  own : wr.ownsRow base 5 1 v n (m.map cu8)
  ord : w.heap.size ≤ gs ∧ gs < base
section
variable {w wr w' : World} {gs base n : Nat} {m bs : List UInt8} {v v' : Value}
theorem PaI.keep (h : PaI w gs base n m v wr) (hb : Below wr.heap.size wr w') : PaI w gs base n m v w' :=
  ⟨h.below.trans (hb.mono h.below.size), h.hs.of_block (hb.block gs h.hs.lt), h.own.kept (grownBy_of_below (r := none) hb) (by cases hv : v.ownBlock <;> simp), h.ord⟩
theorem PaI.next {w5 w6 : World} {lk : Nat} (h : PaI w gs base n m v wr) (hp : WritePost gs (m ++ bs) wr (.returned (.tuple #[])) w5)
    (hown : w6.ownsRow base 5 1 v' (n + lk) (m.map cu8 ++ bs.map cu8)) (hgr : w5.grownBy w6 v.ownBlock) : PaI w gs base (n + lk) (m ++ bs) v' w6 := by
  obtain ⟨_, hH, hg⟩ := hp
  obtain ⟨o1, o2⟩ := h.ord
  have hb5 : Below w.heap.size w w5 := below_of_grown h.below hg h.below.size o1
  have hf : ∀ k, v.ownBlock = some k → base ≤ k := fun k hk => (h.own.lt k hk).1
  refine ⟨hb5.grown hgr hb5.size (fun j hj => by have := hf j hj; omega), hH.of_block (hgr.block gs hH.lt (fun e => by have := hf gs e.symm; omega)), by rw [List.map_append]; exact hown, h.ord⟩
theorem PaI.own5 {w5 : World} (h : PaI w gs base n m v wr) (hp : WritePost gs (m ++ bs) wr (.returned (.tuple #[])) w5) : w5.ownsRow base 5 1 v n (m.map cu8) ∧ Below w.heap.size w w5 := by
  obtain ⟨_, hH, hg⟩ := hp
  obtain ⟨o1, o2⟩ := h.ord
  refine ⟨h.own.kept hg ?_, below_of_grown h.below hg h.below.size o1⟩
  · cases hv : v.ownBlock with
    | none => exact .inl rfl
    | some k => right; have := (h.own.lt k hv).1; simp; omega
end

set_option maxRecDepth 100000 in
set_option maxHeartbeats 1600000 in
theorem shaParts_any (lp : Option Addr) (len cap : Nat) (A : Nat → Option Addr) (L C : Nat → Nat) (B : Nat → List UInt8) (w : World) (hP : Pieces w.heap.size w lp len A L C B) (hl : len ≤ 9223372036854775807) :
    Calls Try.prog 4 #[.slice lp len cap] w (TruePost w) := by
  obtain ⟨i0, hi, hz0, hz1, hz2⟩ := info_parts Try.infoByte
  have HI := Lib.hid (And.intro hi (And.intro hz0 (And.intro hz1 hz2)))
  clear hi hz0 hz1 hz2
  go_enter Try.func4, Try.ntmps4
  go_wp2_with (first
    | (go_at_call 8; refine (stands_any _).mono ?_; rintro e w1 ⟨rfl, hb1⟩)
    | (go_at_call 11; refine (new_any w1).mono ?_; rintro e w2 ⟨gs, rfl, hgs, hHs, hb2⟩
       have hI : PaI w gs w2.heap.size 0 [] (.slice none 0 0) w2 := ⟨hb1.trans (hb2.mono hb1.size), hHs, World.ownsRow_nil _ _ _ _, Nat.le_trans hb1.size hgs, hHs.lt⟩
       clear hgs hHs hb2))
  have hbase : w2.heap.size ≤ w2.heap.size := Nat.le_refl _
  generalize hbs : w2.heap.size = base at hI
  rw [hbs] at hbase
  go_loopg [4, 12] len (fun g v i wr => ∃ (k n : Nat) (m : List UInt8) (vp : Option Addr) (vc : Nat), k ≤ len ∧ g = len - k ∧ i = .int .i64 k ∧ n ≤ 4000 ∧ v = .slice vp n vc ∧ PaI w gs base n m v wr ∧ base ≤ wr.heap.size)
  case atStart => exact ⟨0, 0, [], none, 0, by omega, rfl, rfl, by omega, rfl, hI, by omega⟩
  case round =>
    clear hI hbs hbase
    obtain ⟨k, n, m, vp, vc, hk, rfl, rfl, hn, rfl, hI, hbase⟩ := hrel
    by_cases hlt : k < len
    · have hlt' : (k : Int) < (len : Int) := by omega
      obtain ⟨b, o, rfl, hb, hc⟩ := hP.resolve_left (by omega)
      obtain ⟨c0, hBk, hLk⟩ := hc k hlt
      have c0 : wr.cell? ⟨b, o + k, none⟩ = some (.slice (A k) (L k) (C k)) := (hI.below.cell (p := ⟨b, o + k, none⟩) hb).trans c0
      generalize A k = ak at c0 hBk
      generalize C k = ck at c0 hBk
      generalize L k = lk at c0 hBk hLk
      generalize B k = bk at hBk
      have HP := Lib.hid hP; clear hP hc
      by_cases h50 : k = 50
      · subst h50
        have hlt2 : (50 : Int) < (len : Int) := by omega
        go_wp2_with fail
        go_ret
        exact ⟨rfl, hI.below⟩
      have h50' : ¬ ((k : Int) = 50) := by omega
      by_cases hbig : 4000 < n + lk
      · have hbig' : 4000 < (n : Int) + (lk : Int) := by omega
        go_wp2_with fail
        go_ret
        exact ⟨rfl, hI.below⟩
      have hbig' : ¬ (4000 < (n : Int) + (lk : Int)) := by omega
      have hml : m.length = n := by have := hI.own.1; simpa using this
      have hBr := hBk.below hI.below
      go_wp2_with (first
        | (go_at_call 12; refine (write_bytes gs m bk ak lk ck w.heap.size wr hI.hs hBr hI.ord.1 (by omega)).mono ?_; rintro e w5 hp5; obtain rfl := hp5.1
           have h5 := hI.own5 hp5
           have hs5 := hp5.2.2.size
           clear hBr)
        | (refine wpList_append_bytes w5 rfl _ _ 22 rfl base 5 i0 (.int .u8 0) 1 Try.underlying22 HI.out.1 HI.out.2.1 HI.out.2.2.1 HI.out.2.2.2 rfl _ n _ rfl h5.1 w.heap.size ak lk ck bk rfl (hBk.below h5.2) (by unfold maxLen; omega) (by omega) (by omega) ?_
           intro v6 w6 hown6 hgr6 hat6
           have hI6 := hI.next hp5 hown6 hgr6
           have hs6 := hgr6.size
           obtain ⟨vp6, vc6, rfl, hO6⟩ := Bytes.of_own hI6.own
           have HS6 := Lib.hid hI6.hs
           clear hat6 hown6 hgr6 hp5 h5 hI)
        | (go_at_call 13; refine (sum_any gs (m ++ bk) w6 HS6.out (by rw [List.length_append, hBk.hlen]; omega)).mono ?_; rintro e w7 ⟨rv7, Hrv7, rfl, hb7⟩
           have hI7 := hI6.keep hb7
           have hs7 := hb7.size
           have hO7 := (hO6.below hb7).mono hb7.size
           clear HS6 hO6)
        | (go_at_call 10; refine (rsum_any vp6 (n + lk) vc6 (m ++ bk) w7 hO7 (by omega)).mono ?_; rintro e w8 ⟨rv8, Hrv8, rfl, hb8⟩
           have hI8 := hI7.keep hb8
           have hs8 := hb8.size
           have hO8 := (hO7.below hb8).mono hb8.size
           have heq8 := run_neq_dig (m ++ bk) rv7 rv8 Hrv7 Hrv8
           have HS8 := Lib.hid hI8.hs
           clear hO7 hI7)
        | (go_at_call 13; refine (sum_any gs (m ++ bk) w8 HS8.out (by rw [List.length_append, hBk.hlen]; omega)).mono ?_; rintro e w9 ⟨rv9, Hrv9, rfl, hb9⟩
           have hI9 := hI8.keep hb9
           have hs9 := hb9.size
           have hO9 := (hO8.below hb9).mono hb9.size
           clear HS8 hO8 hI8)
        | (go_at_call 9; refine (whole_any vp6 (n + lk) vc6 (m ++ bk) w9 hO9 (by omega)).mono ?_; rintro e w10 ⟨rv10, Hrv10, rfl, hb10⟩
           have hI10 := hI9.keep hb10
           have hs10 := hb10.size
           have heq10 := run_neq_dig (m ++ bk) rv9 rv10 Hrv9 Hrv10
           clear hO9 hI9))
      go_roundg (len - (k + 1))
      case measure => omega
      case rel => exact ⟨k + 1, n + lk, m ++ bk, vp6, vc6, by omega, rfl, by go_num, by omega, rfl, hI10, by omega⟩
    · obtain rfl : k = len := by omega
      have hge : ¬ ((k : Int) < (k : Int)) := by omega
      go_wp2_with fail
      go_ret
      exact ⟨rfl, hI.below⟩
end Go.Proofs.Ytcnjffckjcoafaa
