/-
  A table's page, plain: what Page answers, what Read makes of it.
-/
import Derived.Test.YtkpogmigfjmacaaPePgB
set_option linter.unusedSimpArgs false
set_option linter.unusedVariables false
namespace Go.Proofs.Ytkpogmigfjmacaa
open Go.RowKit Sh

def pad (l : List UInt8) : List UInt8 := l ++ List.replicate (64 - l.length) 0
theorem pad_len {l : List UInt8} (h : l.length ≤ 64) : (pad l).length = 64 := by simp [pad]; omega
theorem pad_set {l : List UInt8} (h : l.length < 64) (b : UInt8) : (pad l).set l.length b = pad (l ++ [b]) := by
  unfold pad
  rw [List.set_append_right _ _ (Nat.le_refl _), Nat.sub_self]
  have e : 64 - l.length = (64 - (l ++ [b]).length) + 1 := by simp; omega
  rw [e, List.replicate_succ, List.set_cons_zero, List.append_assoc]; rfl
theorem pad_splice {l cs : List UInt8} (h : l.length + cs.length ≤ 64) : splice (pad l) l.length cs = pad (l ++ cs) := by
  unfold splice pad
  rw [List.take_append_of_le_length (Nat.le_refl _), List.take_length, List.append_assoc, List.drop_append, List.drop_of_length_le (by omega)]
  simp only [List.nil_append, List.drop_replicate, List.length_append]
  congr 3
  omega
theorem splice_map {l cs : List UInt8} {o : Nat} : splice (l.map cu8) o (cs.map cu8) = (splice l o cs).map cu8 := by simp [splice]
theorem pad_at {l : List UInt8} {i : Nat} (h : i < l.length) : at8 (pad l) i = at8 l i := by
  unfold at8 pad
  rw [List.getD_eq_getElem?_getD, List.getD_eq_getElem?_getD, List.getElem?_append_left h]

def regB8 (q : Int × Int) : List UInt8 := UInt8.ofNat q.1.toNat :: leN 8 q.2.toNat
theorem regB8_len (q : Int × Int) : (regB8 q).length = 9 := by simp [regB8, leN_length]
def headT (T : Tb) : List UInt8 := 80 :: UInt8.ofNat (T.h + 1).toNat :: UInt8.ofNat T.t.toNat :: leN 4 T.g.toNat
theorem headT_len (T : Tb) : (headT T).length = 7 := by simp [headT, leN_length]
def bodyT (l : List (Int × Int)) : List UInt8 := l.flatMap regB8
theorem bodyT_len (l : List (Int × Int)) : (bodyT l).length = 9 * l.length := by
  unfold bodyT
  induction l with
  | nil => rfl
  | cons q l ih => rw [List.flatMap_cons, List.length_append, regB8_len, ih, List.length_cons]; omega
def pageS (T : Tb) : List UInt8 := pad (headT T ++ bodyT T.l)
def pageL (T : Tb) : List UInt8 := if soundB T.l T.h T.t = true then pageS T else zero64
theorem pageS_len {T : Tb} (h : T.l.length ≤ 6) : (pageS T).length = 64 := pad_len (by rw [List.length_append, headT_len, bodyT_len]; omega)
theorem pageL_len (T : Tb) : (pageL T).length = 64 := by
  unfold pageL
  split
  · rename_i h; exact pageS_len (sound_iff.1 h).1
  · rfl
/-- The registrations that a page says, ahead of place i. -/
def keyP (p : List UInt8) (i : Nat) : Nat := numFrom ((p.drop (8 + 9 * i)).take 8) 0
def nxP (p : List UInt8) (i : Nat) : Int := ((at8 p (7 + 9 * i)).toNat : Int)
def regsP (p : List UInt8) (k : Nat) : List (Int × Int) := (List.range k).filterMap fun i => if keyP p i = 0 then none else some (nxP p i, (keyP p i : Int))
theorem regsP_next (p : List UInt8) (k : Nat) : regsP p (k + 1) = regsP p k ++ (if keyP p k = 0 then [] else [(nxP p k, (keyP p k : Int))]) := by
  unfold regsP
  rw [List.range_succ, List.filterMap_append]
  by_cases h : keyP p k = 0 <;> simp [h]
theorem regsP_len (p : List UInt8) (k : Nat) : (regsP p k).length ≤ k := by
  unfold regsP
  exact Nat.le_trans (List.length_filterMap_le _ _) (by simp)
def toldL (p : List UInt8) : Tb := ⟨numFrom ((p.drop 3).take 4) 0, regsP p 6, (at8 p 1).toNat - 1, (at8 p 2).toNat, true⟩

theorem numFrom_leN : ∀ (n x : Nat), numFrom (leN n x) 0 = x % 256 ^ n
  | 0, x => by rw [Nat.pow_zero, Nat.mod_one]; rfl
  | n + 1, x => by
    have h1 : 256 ^ (n + 1) = 256 ^ n * 256 := Nat.pow_succ ..
    have h2 : 2 ^ (8 * n) = 256 ^ n := by rw [Nat.pow_mul]
    rw [leN_succ, numFrom_snoc, numFrom_leN n x, leN_length, UInt8.toNat_ofNat', h1, Nat.mod_mul, h2]
    show x % 256 ^ n + x / 256 ^ n % 256 * 256 ^ n = _
    rw [Nat.mul_comm (x / 256 ^ n % 256)]
theorem numFrom_bound (l : List UInt8) {n : Nat} (h : l.length ≤ n) : numFrom l 0 < 256 ^ n :=
  Nat.lt_of_lt_of_le (numFrom_lt l 0) (Nat.pow_le_pow_right (by omega) (by omega))
theorem keyP_bound (p : List UInt8) (i : Nat) : (keyP p i : Int) ≤ 18446744073709551615 := by
  have := numFrom_bound ((p.drop (8 + 9 * i)).take 8) (n := 8) (by simp; omega)
  unfold keyP; omega
theorem nxP_bound (p : List UInt8) (i : Nat) : 0 ≤ nxP p i ∧ nxP p i ≤ 255 := by
  have := (at8 p (7 + 9 * i)).toNat_lt
  unfold nxP; omega
theorem gP_bound (p : List UInt8) : (numFrom ((p.drop 3).take 4) 0 : Int) ≤ 4294967295 := by
  have := numFrom_bound ((p.drop 3).take 4) (n := 4) (by simp; omega)
  omega
theorem at8_append_right {a b : List UInt8} {i : Nat} (h : a.length ≤ i) : at8 (a ++ b) i = at8 b (i - a.length) := by
  unfold at8
  rw [List.getD_eq_getElem?_getD, List.getD_eq_getElem?_getD, List.getElem?_append_right h]
theorem at8_append_left {a b : List UInt8} {i : Nat} (h : i < a.length) : at8 (a ++ b) i = at8 a i := by
  unfold at8
  rw [List.getD_eq_getElem?_getD, List.getD_eq_getElem?_getD, List.getElem?_append_left h]
theorem at8_zero (n i : Nat) : at8 (List.replicate n 0) i = 0 := by
  unfold at8
  rw [List.getD_eq_getElem?_getD, List.getElem?_replicate]
  split <;> rfl
theorem bodyT_drop : ∀ (l : List (Int × Int)) (i : Nat), (bodyT l).drop (9 * i) = bodyT (l.drop i)
  | l, 0 => by simp
  | [], i + 1 => by simp [bodyT]
  | q :: l, i + 1 => by
    have e : 9 * (i + 1) = (regB8 q).length + 9 * i := by rw [regB8_len]; omega
    rw [List.drop_succ_cons, ← bodyT_drop l i, show bodyT (q :: l) = regB8 q ++ bodyT l from rfl, e, List.drop_append]
    rw [List.drop_of_length_le (by omega)]
    simp
theorem numFrom_zero (n : Nat) : numFrom (List.replicate n 0) 0 = 0 := by
  induction n with
  | zero => rfl
  | succ n ih =>
    have : List.replicate (n + 1) (0 : UInt8) = List.replicate n 0 ++ [0] := by rw [List.replicate_succ']
    rw [this, numFrom_snoc, ih]; simp
/-- What stands from a registration's place on. -/
theorem page_drop {T : Tb} (i : Nat) (h6 : T.l.length ≤ 6) (hi : i ≤ T.l.length) : (pageS T).drop (7 + 9 * i) = bodyT (T.l.drop i) ++ List.replicate (57 - 9 * T.l.length) 0 := by
  unfold pageS pad
  have hb := bodyT_len T.l
  have hh := headT_len T
  rw [List.append_assoc, List.drop_append, hh, List.drop_of_length_le (by omega), List.nil_append, Nat.add_sub_cancel_left, List.drop_append, hb, bodyT_drop, show 9 * i - 9 * T.l.length = 0 by omega, List.drop_zero, List.length_append, hh, hb]
  congr 2
  omega
theorem page_key {T : Tb} {i : Nat} {q : Int × Int} (h6 : T.l.length ≤ 6) (hq : T.l[i]? = some q) (h1 : 0 ≤ q.1 ∧ q.1 < 8) (h2 : U64 q.2) : keyP (pageS T) i = q.2.toNat ∧ nxP (pageS T) i = q.1 := by
  obtain ⟨hi, rfl⟩ := List.getElem?_eq_some_iff.1 hq
  have hd := page_drop i h6 (by omega)
  rw [List.drop_eq_getElem_cons hi, show ∀ q : Int × Int, ∀ l, bodyT (q :: l) = regB8 q ++ bodyT l from fun _ _ => rfl] at hd
  generalize T.l[i] = q at hd h1 h2
  constructor
  · unfold keyP
    rw [show 8 + 9 * i = (7 + 9 * i) + 1 by omega, ← List.drop_drop, hd, regB8]
    simp only [List.cons_append, List.drop_succ_cons, List.drop_zero, List.append_assoc]
    rw [List.take_append_of_le_length (by simp [leN_length]), List.take_of_length_le (by simp [leN_length]), numFrom_leN]
    obtain ⟨h0, h3⟩ := h2
    have : (256 : Nat) ^ 8 = 18446744073709551616 := by decide
    rw [this]
    omega
  · unfold nxP
    have : at8 (pageS T) (7 + 9 * i) = at8 ((pageS T).drop (7 + 9 * i)) 0 := by
      unfold at8; rw [List.getD_eq_getElem?_getD, List.getD_eq_getElem?_getD, List.getElem?_drop, Nat.add_zero]
    rw [this, hd, regB8]
    show (((UInt8.ofNat q.1.toNat).toNat : Nat) : Int) = q.1
    rw [UInt8.toNat_ofNat']
    omega
theorem page_nokey {T : Tb} {i : Nat} (h6 : T.l.length ≤ 6) (hi : T.l.length ≤ i) : keyP (pageS T) i = 0 := by
  have hd := page_drop T.l.length h6 (Nat.le_refl _)
  rw [List.drop_of_length_le (Nat.le_refl _)] at hd
  unfold keyP
  have e : 8 + 9 * i = (7 + 9 * T.l.length) + (1 + 9 * (i - T.l.length)) := by omega
  rw [e, ← List.drop_drop, hd]
  simp only [bodyT, List.flatMap_nil, List.nil_append, List.drop_replicate, List.take_replicate]
  exact numFrom_zero _
theorem regs_page {T : Tb} (h6 : T.l.length ≤ 6) (hl : ∀ q ∈ T.l, (0 ≤ q.1 ∧ q.1 < 8) ∧ U64 q.2 ∧ q.2 ≠ 0) : ∀ k, regsP (pageS T) k = T.l.take k
  | 0 => rfl
  | k + 1 => by
    rw [regsP_next, regs_page h6 hl k]
    rcases Nat.lt_or_ge k T.l.length with h | h
    · obtain ⟨q, hq⟩ : ∃ q, T.l[k]? = some q := ⟨_, List.getElem?_eq_getElem h⟩
      obtain ⟨a, b, c⟩ := hl q (List.mem_of_getElem? hq)
      obtain ⟨e1, e2⟩ := page_key h6 hq a b
      have hne : ¬ q.2.toNat = 0 := by have := b.1; omega
      rw [List.take_add_one, hq, e1, e2, if_neg hne]
      have : ((q.2.toNat : Nat) : Int) = q.2 := by have := b.1; omega
      rw [this]; rfl
    · rw [page_nokey h6 h, if_pos rfl, List.append_nil, List.take_of_length_le h, List.take_of_length_le (by omega)]
/-- What was said is told. -/
theorem told_page {T : Tb} (hs : soundB T.l T.h T.t = true) (hl : ∀ q ∈ T.l, U64 q.2) (hg : U32 T.g) : toldL (pageS T) = { T with p := true } := by
  obtain ⟨h6, hr, h3⟩ := sound_iff.1 hs
  have hreg := regs_page h6 (fun q hq => ⟨⟨by have := (rise_mem hr hq).1; omega, (rise_mem hr hq).2.1⟩, hl q hq, (rise_mem hr hq).2.2⟩) 6
  rw [List.take_of_length_le h6] at hreg
  have hh : -1 ≤ T.h ∧ T.h < 8 := by
    rcases h3 with ⟨_, h⟩ | ⟨_, _, hk⟩
    · omega
    · have e1 : ¬ T.h < 0 := fun hlt => hk (keyL_rise hr (by omega))
      have e2 : ¬ 8 ≤ T.h := fun hge => hk (keyL_hi hr hge)
      omega
  have ht : 0 ≤ T.t ∧ T.t < 256 := by
    rcases h3 with ⟨h, _⟩ | ⟨_, h, _⟩
    · omega
    · simp [isTyB] at h; omega
  have hlen : 7 ≤ (headT T ++ bodyT T.l).length := by rw [List.length_append, headT_len]; omega
  have a1 : at8 (pageS T) 1 = UInt8.ofNat (T.h + 1).toNat := by unfold pageS; rw [pad_at (by omega), at8_append_left (by rw [headT_len]; omega)]; rfl
  have a2 : at8 (pageS T) 2 = UInt8.ofNat T.t.toNat := by unfold pageS; rw [pad_at (by omega), at8_append_left (by rw [headT_len]; omega)]; rfl
  have a3 : numFrom (((pageS T).drop 3).take 4) 0 = T.g.toNat := by
    unfold pageS pad
    rw [List.append_assoc, headT]
    simp only [List.cons_append, List.drop_succ_cons, List.drop_zero]
    rw [List.take_append_of_le_length (by simp [leN_length]), List.take_of_length_le (by simp [leN_length]), numFrom_leN]
    obtain ⟨h0, h4⟩ := hg
    have : (256 : Nat) ^ 4 = 4294967296 := by decide
    rw [this]; omega
  unfold toldL
  rw [hreg, a1, a2, a3, UInt8.toNat_ofNat', UInt8.toNat_ofNat']
  obtain ⟨g, l, h, t, p⟩ := T
  simp only [Tb.mk.injEq] at *
  obtain ⟨h0, h4⟩ := hg
  refine ⟨by omega, trivial, by omega, by omega, trivial⟩
theorem told_zero : toldL zero64 = ⟨0, [], -1, 0, true⟩ := by rfl
/-- What Read makes of a page. -/
def readL (p : List UInt8) : Tb := if pageL (toldL p) = p then toldL p else ⟨0, [], -1, 0, false⟩
theorem read_sound {p : List UInt8} : soundB (readL p).l (readL p).h (readL p).t = true ∧ ((readL p).p = false → readL p = ⟨0, [], -1, 0, false⟩) := by
  unfold readL
  split
  · rename_i h
    refine ⟨?_, fun e => by cases e⟩
    cases hs : soundB (toldL p).l (toldL p).h (toldL p).t with
    | true => rfl
    | false =>
      have : pageL (toldL p) = zero64 := by unfold pageL; rw [if_neg (by rw [hs]; simp)]
      rw [this] at h
      rw [← h, told_zero] at hs
      cases hs
  · exact ⟨rfl, fun _ => rfl⟩
theorem read_zero : readL zero64 = ⟨0, [], -1, 0, false⟩ := by
  unfold readL
  rw [told_zero]
  rw [if_neg (by decide)]
theorem read_page {T : Tb} (hs : soundB T.l T.h T.t = true) (hl : ∀ q ∈ T.l, U64 q.2) (hg : U32 T.g) : readL (pageL T) = { T with p := true } := by
  have e : pageL T = pageS T := by unfold pageL; rw [if_pos hs]
  unfold readL
  rw [e, told_page hs hl hg]
  have e2 : pageL { T with p := true } = pageS T := by unfold pageL; rw [if_pos (by exact hs)]; rfl
  rw [if_pos e2]
end Go.Proofs.Ytkpogmigfjmacaa
