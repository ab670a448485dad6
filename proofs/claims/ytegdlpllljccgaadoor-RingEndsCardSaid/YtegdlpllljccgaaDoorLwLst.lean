/-
  A ring of 300 sectors, from zeros on, that records are added to: what a crash leaves of it, and what is left where one byte of the last record was turned.
-/
import Derived.Test.YtegdlpllljccgaaDoorLwRound
import Derived.Test.YtegdlpllljccgaaDoorRgCrash
import Derived.Test.YtegdlpllljccgaaDoorRgTurned
set_option linter.unusedSimpArgs false
set_option linter.unusedVariables false
namespace Go.Proofs.YtegdlpllljccgaaDoor
open Go.RowKit Sh

structure Lst (S : St) (rs : List (List Chg)) (sure : Nat) : Prop where
  lit : Lit S
  good : Good S
  byt : Byt S
  firm : S.firm.length = 300
  ats : S.ats.length ≤ 65 * rs.length
  laid : LaidR 300 (pgOf (imgB S) 0 300) m00 rs
  fit : ∀ l ∈ rs, Fit l
  room : takesAll rs ≤ 300
  clean : Clean 300 (pgOf (imgB S) 0 300) m00 rs
  nodup : (S.ats.map Int.toNat).Nodup
  zeros : ∀ i, takesAll (rs.take sure) ≤ i → i < 300 → S.firm[i]? = some zeroPage
  sureLe : sure ≤ rs.length
  inr : ∀ a ∈ S.ats, takesAll (rs.take sure) ≤ a.toNat ∧ a.toNat < takesAll rs
theorem Lst.new : Lst (newS 300) [] 0 where
  lit := lit_new 300
  good := good_new 300 (by omega) (by omega)
  byt := byt_new 300
  firm := newS_len 300
  ats := by rw [newS_ats]; exact Nat.zero_le _
  laid := trivial
  fit := fun l h => by simp at h
  room := by simp [takesAll]
  clean := clean_new (D := 300) (first := 0) m00 (by omega) (by omega)
  nodup := List.nodup_nil
  zeros := fun i _ hi => by
    show (List.replicate 300 zeroPage)[i]? = _
    rw [List.getElem?_replicate, if_pos hi]
  sureLe := Nat.le_refl _
  inr := fun a ha => absurd ha (List.not_mem_nil)
theorem takesAll_take_le (rs : List (List Chg)) (k : Nat) : takesAll (rs.take k) ≤ takesAll rs := by
  have := takesAll_append (rs.take k) (rs.drop k)
  rw [List.take_append_drop] at this
  omega
theorem takesAll_ge : ∀ (rs : List (List Chg)), rs.length ≤ takesAll rs
  | [] => Nat.zero_le _
  | l :: rs => by rw [takesAll_cons, List.length_cons]; have := takesAll_ge rs; have := takes_pos l.length; omega
theorem list_ext_get {α : Type} {a b : List α} (hl : a.length = b.length) (h : ∀ i, i < a.length → a[i]? = b[i]?) : a = b := by
  apply List.ext_getElem?
  intro i
  by_cases hi : i < a.length
  · exact h i hi
  · rw [List.getElem?_eq_none (by omega), List.getElem?_eq_none (by omega)]
section
variable {S : St} {rs : List (List Chg)} {sure : Nat}
theorem Lst.img_len (h : Lst S rs sure) : (imgB S).length = 300 := by rw [imgB_length, h.firm]
theorem Lst.place (h : Lst S rs sure) (hr : takesAll rs < 300) : (lastOf 300 m00 rs).place = takesAll rs := by
  have h1 := lastOf_place 300 rs m00
  have h2 := lastOf_place_lt (n := 300) (by omega) rs (m := m00) (by decide)
  have h3 : m00.place = 0 := rfl
  rw [h3, Nat.zero_add, Nat.mod_eq_of_lt hr, Nat.mod_eq_of_lt h2] at h1
  exact h1
theorem Lst.num (h : Lst S rs sure) : (lastOf 300 m00 rs).num = rs.length := by
  rw [lastOf_num 300 rs m00 (by have := takesAll_ge rs; have := h.room; have e : m00.num = 0 := rfl; omega)]
  exact Nat.zero_add _
theorem Lst.last (_ : Lst S rs sure) : (lastOf 300 m00 rs).last.length = 32 := lastOf_last rs (by decide)
theorem Lst.ring (h : Lst S rs sure) : RingOk 0 300 (lastOf 300 m00 rs) (takesAll rs) :=
  ⟨by omega, by omega, by omega, lastOf_place_lt (by omega) rs (by decide), by rw [h.num]; have := takesAll_ge rs; have := h.room; omega, h.room⟩
theorem Lst.ends (h : Lst S rs sure) : ¬ begins (pgOf (imgB S) 0 300) (300 - takesAll rs) (lastOf 300 m00 rs) := clean_ends (pgOf_mod_add _ _ _) h.clean h.room
theorem Lst.found (h : Lst S rs sure) : openAll 300 (pgOf (imgB S) 0 300) 300 300 m00 = (rs, lastOf 300 m00 rs, 300 - takesAll rs) := open_laid (pgOf_mod_add _ _ _) h.laid h.fit h.room h.ends
theorem Lst.texts (h : Lst S rs sure) : (chainAll 300 (pgOf (imgB S) 0 300) 300 300 m00).1 = textsOf 300 m00 rs := by
  rw [chainAll_laid h.laid h.fit h.room (Nat.le_refl _), chainAll_stop h.ends, List.append_nil]
theorem Lst.pages (h : Lst S rs sure) : ∀ i, (pgOf (imgB S) 0 300 i).length = 64 := fun i => pg_len h.byt (by rw [h.firm]; omega) (by omega) i
theorem Lst.add (h : Lst S rs sure) {n x : Nat} (h1 : 1 ≤ n) (h2 : n ≤ 60) (hx : x < 16777216) (ht : takesAll rs + takes n ≤ 300) :
    (writesOf 0 300 S (lastOf 300 m00 rs).place (sectors (lastOf 300 m00 rs) (chgs n x))).2 = 0 ∧ Lst (writesOf 0 300 S (lastOf 300 m00 rs).place (sectors (lastOf 300 m00 rs) (chgs n x))).1 (rs ++ [chgs n x]) sure := by
  have hin : 0 + 300 ≤ S.firm.length := by rw [h.firm]; omega
  obtain ⟨e1, e2, e3, e4⟩ := writes_lit (first := 0) (n := 300) (by omega) (sectors (lastOf 300 m00 rs) (chgs n x)) S (lastOf 300 m00 rs).place h.lit h.good hin
  have hf := chgs_fit n x h1 h2 hx
  have hta : takesAll (rs ++ [chgs n x]) = takesAll rs + takes n := by rw [takesAll_append, takesAll_cons, chgs_length]; simp [takesAll]
  have htt : takesAll (rs ++ [chgs n x]) ≤ 300 := by rw [hta]; exact ht
  have htp := takes_pos n
  have hi : 0 + 300 ≤ (imgB S).length := by rw [h.img_len]; omega
  have hpl := h.place (by omega)
  have hsl : (sectors (lastOf 300 m00 rs) (chgs n x)).length = takes n := by rw [sectors_length, chgs_length]
  have hats : (writesOf 0 300 S (lastOf 300 m00 rs).place (sectors (lastOf 300 m00 rs) (chgs n x))).1.ats = S.ats ++ (List.range (takes n)).map fun i => ((takesAll rs + i : Nat) : Int) := by
    rw [e4, hsl, hpl]
    congr 1
    apply List.map_congr_left
    intro i hi
    have := List.mem_range.1 hi
    rw [Nat.mod_eq_of_lt (by omega), Nat.zero_add]
  have hnew : ∀ a ∈ (List.range (takes n)).map (fun i => ((takesAll rs + i : Nat) : Int)), takesAll rs ≤ a.toNat ∧ a.toNat < takesAll rs + takes n := fun a ha => by
    obtain ⟨i, hi, rfl⟩ := List.mem_map.1 ha
    have := List.mem_range.1 hi
    omega
  have hsr := h.sureLe
  have hstk : (rs ++ [chgs n x]).take sure = rs.take sure := List.take_append_of_le_length hsr
  have htl := takesAll_take_le rs sure
  refine ⟨e1, ⟨e2, writesOf_good _ _ _ _ _ h.good, writesOf_byt _ _ _ _ _ (fun p hp => ?_) h.byt, by rw [writesOf_firm]; exact h.firm, ?_, ?_, fun l hl => ?_, htt, ?_, ?_, ?_, ?_, ?_⟩⟩
  · rcases List.mem_cons.1 hp with rfl | hp
    · simp [firstOf, head10_length, dig_len]
    · exact body_pages hf p hp
  · rw [hats, List.length_append, List.length_map, List.length_range, List.length_append, List.length_singleton]
    have ha := h.ats
    have : takes n ≤ 65 := by unfold takes; omega
    omega
  · rw [e3]; exact laid_add (by omega) hi h.laid htt
  · rcases List.mem_append.1 hl with hl | hl
    · exact h.fit l hl
    · rw [List.mem_singleton.1 hl]; exact hf
  · rw [e3]; exact clean_add (by omega) hi h.clean htt
  · rw [hats, List.map_append, List.nodup_append]
    refine ⟨h.nodup, ?_, ?_⟩
    · rw [List.map_map]
      refine List.Pairwise.map _ (R := fun a b => a ≠ b) (fun a b hab => ?_) List.nodup_range
      simp only [Function.comp]
      omega
    · intro a ha b hb e
      obtain ⟨y, hy, rfl⟩ := List.mem_map.1 ha
      obtain ⟨z, hz, rfl⟩ := List.mem_map.1 hb
      have := (h.inr y hy).2
      have := (hnew z hz).1
      omega
  · rw [hstk, writesOf_firm]; exact h.zeros
  · rw [List.length_append]; omega
  · rw [hats, hstk, hta]
    intro a ha
    rcases List.mem_append.1 ha with ha | ha
    · have := h.inr a ha; omega
    · have := hnew a ha; omega
theorem Lst.flush (h : Lst S rs sure) : (flushOf S).2 = 0 ∧ Lst (flushOf S).1 rs rs.length := by
  obtain ⟨h1, h2, h3, h4⟩ := flush_lit h.lit
  have htk : rs.take rs.length = rs := List.take_of_length_le (Nat.le_refl _)
  refine ⟨h1, ⟨h2, good_flush h.good, byt_flush h.byt, by rw [flush_firm]; exact h.firm, by rw [h4]; exact Nat.zero_le _, by rw [h3]; exact h.laid, h.fit, h.room, by rw [h3]; exact h.clean, by rw [h4]; simp, fun i h5 h6 => ?_, Nat.le_refl _, by rw [h4]; simp⟩⟩
  rw [htk] at h5
  have hno : ¬ (S.off = true ∨ S.fuel = 0) := by rw [h.lit.on, h.lit.fuel]; simp
  have e : (flushOf S).1.firm = flushS S.firm S.ats S.what := by unfold flushOf; rw [if_neg hno]
  rw [e, flushS_far _ _ _ _ (fun a ha => by have := (h.inr a ha).2; omega)]
  exact h.zeros i (by have := takesAll_take_le rs sure; omega) h6
theorem Lst.once (h : Lst S rs sure) : Once S := ⟨h.nodup, fun a ha => h.zeros _ (h.inr a ha).1 (by have := (h.inr a ha).2; have := h.room; omega)⟩
theorem heads_of_laid {n : Nat} {pg pg' : Nat → List UInt8} (hq : ∀ i, pg' i = pg i ∨ at8 (pg' i) 0 ≠ 84) : ∀ {b : List (List Chg)} {m : Mk}, LaidR n pg m b → Heads n pg' m b
  | [], _, _ => trivial
  | l :: b, m, ⟨h1, h2⟩ => ⟨(hq m.place).imp (fun e => e.trans h1.first) id, heads_of_laid hq h2⟩
theorem LaidR.right {n : Nat} {pg : Nat → List UInt8} : ∀ {a : List (List Chg)} {b : List (List Chg)} {m : Mk}, LaidR n pg m (a ++ b) → LaidR n pg (lastOf n m a) b
  | [], _, _, h => h
  | _ :: a, _, _, ⟨_, h2⟩ => LaidR.right (a := a) h2
/-- Behind a crash: some first records, at least those that are sure; or two unlike texts have one digest. -/
theorem Lst.crash (h : Lst S rs sure) (pick : List Int) :
    (∃ j, sure ≤ j ∧ j ≤ rs.length ∧ (openAll 300 (pgOf (imgB (crashOf S pick)) 0 300) 300 300 m00).1 = rs.take j) ∨ Clashes (textsOf 300 m00 rs) (chainAll 300 (pgOf (imgB (crashOf S pick)) 0 300) 300 300 m00).1 := by
  have hz : bytesOf zeroPage = List.replicate 64 0 := by
    have e : zeroPage = (List.replicate 64 (0 : UInt8)).map cu8 := by rw [List.map_replicate]; rfl
    rw [e, bytesOf_cu8]
  have hone : ∀ i, i < 300 → pgOf (imgB (crashOf S pick)) 0 300 i = pgOf (imgB S) 0 300 i ∨ (takesAll (rs.take sure) ≤ i ∧ i < takesAll rs ∧ pgOf (imgB (crashOf S pick)) 0 300 i = List.replicate 64 0) := fun i hi => by
    unfold pgOf imgB
    rw [Nat.mod_eq_of_lt hi, Nat.zero_add, List.getD_eq_getElem?_getD, List.getD_eq_getElem?_getD, List.getElem?_map, List.getElem?_map]
    rcases crash_once h.good h.once pick i with e | ⟨⟨a, ha, rfl⟩, e⟩
    · left; rw [e]
    · right
      have := h.inr a ha
      refine ⟨this.1, this.2, ?_⟩
      rw [e]
      exact hz
  have hmod : ∀ (im : List (List UInt8)) i, pgOf im 0 300 i = pgOf im 0 300 (i % 300) := fun im i => (pgOf_mod _ _ _ _).symm
  have hall : ∀ i, pgOf (imgB (crashOf S pick)) 0 300 i = pgOf (imgB S) 0 300 i ∨ at8 (pgOf (imgB (crashOf S pick)) 0 300 i) 0 ≠ 84 := fun i => by
    rw [hmod _ i, hmod (imgB S) i]
    rcases hone (i % 300) (Nat.mod_lt _ (by omega)) with e | ⟨_, _, e⟩
    · exact .inl e
    · right; rw [e]; decide
  have h0 : m00.place = 0 := rfl
  have hsplit : rs.take sure ++ rs.drop sure = rs := List.take_append_drop _ _
  have hL := h.laid
  rw [← hsplit] at hL
  have ha : LaidR 300 (pgOf (imgB (crashOf S pick)) 0 300) m00 (rs.take sure) := hL.left.congr (pgOf_mod_add _ _ _) (pgOf_mod_add _ _ _) fun d hd => by
    rw [h0, Nat.zero_add]
    have := takesAll_take_le rs sure
    have := h.room
    rcases hone d (by omega) with e | ⟨e, _, _⟩
    · exact e
    · omega
  have hb : Heads 300 (pgOf (imgB (crashOf S pick)) 0 300) (lastOf 300 m00 (rs.take sure)) (rs.drop sure) := heads_of_laid hall hL.right
  have hc : Clean 300 (pgOf (imgB (crashOf S pick)) 0 300) m00 rs := fun d h1 h2 => by
    have e := h.clean d h1 h2
    rw [h0, Nat.zero_add] at e ⊢
    rcases hone d h2 with e' | ⟨_, e', _⟩
    · rw [e', e]
    · omega
  have hp : ∀ i, (pgOf (imgB (crashOf S pick)) 0 300 i).length = 64 := fun i => pg_len (byt_crash h.byt pick) (by rw [crash_firm, h.firm]; omega) (by omega) i
  have hfit : ∀ l ∈ rs.take sure ++ rs.drop sure, Fit l := by rw [hsplit]; exact h.fit
  have := open_lasts hp (f := 300) (free := 300) ha hb hfit (by rw [hsplit]; exact h.room) (Nat.le_refl _) (by rw [hsplit]; exact clean_ends (pgOf_mod_add _ _ _) hc h.room)
  rw [hsplit] at this
  have hsr := h.sureLe
  rwa [List.length_take, Nat.min_eq_left hsr] at this
end
end Go.Proofs.YtegdlpllljccgaaDoor
