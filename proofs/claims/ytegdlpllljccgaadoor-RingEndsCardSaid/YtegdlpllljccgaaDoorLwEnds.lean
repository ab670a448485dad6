/-
  'RingEnds': its walk.
-/
import Derived.Test.YtegdlpllljccgaaDoorLwLasts
import Derived.Laws.BitsAllLaws
set_option linter.unusedSimpArgs false
set_option linter.unusedVariables false
namespace Go.Proofs.YtegdlpllljccgaaDoor
open Go.RowKit Sh Go.Extern.Stop Go.Stop Go.Extern

theorem openAll_goes {n : Nat} {pg : Nat → List UInt8} {f free : Nat} {m : Mk} (hh : holds pg free m) (hf : free ≤ f) :
    openAll n pg f free m = (found pg m :: (openAll n pg f (free - takes (kOf pg m)) (behind n m (kOf pg m) (dig (rawText pg m)))).1, (openAll n pg f (free - takes (kOf pg m)) (behind n m (kOf pg m) (dig (rawText pg m)))).2) := by
  have h3 := hh.1.2.2.2
  have h4 := takes_pos (kOf pg m)
  obtain ⟨f, rfl⟩ : ∃ g, f = g + 1 := ⟨f - 1, by omega⟩
  conv => lhs; rw [openAll, if_pos hh]
  simp only
  rw [openAll_rounds n pg f (f + 1) _ _ (by omega) (by omega)]
section
variable {S : St} {a : List (List Chg)} {l : List Chg} {sure : Nat}
/-- One byte of the last record's sector d is another one. -/
theorem Lst.turned (h : Lst S (a ++ [l]) sure) (ht : takesAll (a ++ [l]) < 300) {d b : Nat} {x : UInt8} (hd : d < takes l.length) (hb : b < 64) {pg' : Nat → List UInt8}
    (hx : x ≠ at8 (pgOf (imgB S) 0 300 (takesAll a + d)) b) (hpg : pg' = pgOf ((imgB S).set (takesAll a + d) ((pgOf (imgB S) 0 300 (takesAll a + d)).set b x)) 0 300) :
    (d = 0 ∧ 42 ≤ b → (openAll 300 pg' 300 300 m00).1 = a ++ [l]) ∧ (¬ (d = 0 ∧ 42 ≤ b) → (openAll 300 pg' 300 300 m00).1 = a ∨ Clashes (textsOf 300 m00 (a ++ [l])) (chainAll 300 pg' 300 300 m00).1) := by
  have hta : takesAll (a ++ [l]) = takesAll a + takes l.length := by rw [takesAll_append, takesAll_cons]; simp [takesAll]
  have h0 : m00.place = 0 := rfl
  have hi := h.img_len
  have hpl : (lastOf 300 m00 a).place = takesAll a := by
    have h1 := lastOf_place 300 a m00
    have h2 := lastOf_place_lt (n := 300) (by omega) a (m := m00) (by decide)
    rw [h0, Nat.zero_add, Nat.mod_eq_of_lt h2, Nat.mod_eq_of_lt (show takesAll a < 300 by omega)] at h1
    exact h1
  have hself : pg' (takesAll a + d) = (pgOf (imgB S) 0 300 (takesAll a + d)).set b x := by
    have e : ∀ im : List (List UInt8), pgOf im 0 300 (takesAll a + d) = im.getD (takesAll a + d) [] := fun im => by
      unfold pgOf
      rw [Nat.mod_eq_of_lt (by omega), Nat.zero_add]
    rw [hpg, e, List.getD_eq_getElem?_getD, List.getElem?_set_self (by omega)]
    rfl
  have hoth : ∀ i, i < 300 → i ≠ takesAll a + d → pg' i = pgOf (imgB S) 0 300 i := fun i hi' hne => by
    rw [hpg]
    unfold pgOf
    simp only [Nat.mod_eq_of_lt hi', Nat.zero_add, List.getD_eq_getElem?_getD]
    rw [List.getElem?_set_ne (by omega)]
  have hmod : ∀ i d, pg' (i % 300 + d) = pg' (i + d) := by rw [hpg]; exact pgOf_mod_add _ _ _
  have h64 := h.pages
  have h64' : ∀ i, (pg' i).length = 64 := fun i => by
    have e : pg' i = pg' (i % 300) := by have := hmod i 0; simp only [Nat.add_zero] at this; exact this.symm
    rw [e]
    have := Nat.mod_lt i (show 0 < 300 by omega)
    by_cases he : i % 300 = takesAll a + d
    · rw [he, hself, List.length_set]; exact h64 _
    · rw [hoth _ this he]; exact h64 _
  have hfa : ∀ l' ∈ a, Fit l' := fun l' hl => h.fit l' (by simp [hl])
  have hfl : Fit l := h.fit l (by simp)
  have hLa : LaidR 300 pg' m00 a := h.laid.left.congr (pgOf_mod_add _ _ _) hmod fun e he => by
    rw [h0, Nat.zero_add]
    exact hoth e (by omega) (by omega)
  have hSt : Stands (pgOf (imgB S) 0 300) (lastOf 300 m00 a) l := h.laid.right.1
  have hd' : pg' ((lastOf 300 m00 a).place + d) = (pgOf (imgB S) 0 300 ((lastOf 300 m00 a).place + d)).set b x := by rw [hpl]; exact hself
  have hr' : ∀ e, e < takes l.length → e ≠ d → pg' ((lastOf 300 m00 a).place + e) = pgOf (imgB S) 0 300 ((lastOf 300 m00 a).place + e) := fun e he hne => by
    rw [hpl]; exact hoth _ (by omega) (by omega)
  have hopen := openAll_laid (f := 300) (free := 300) hLa hfa (by omega) (Nat.le_refl _)
  refine ⟨fun ⟨hd0, hb42⟩ => ?_, fun hnot => ?_⟩
  · subst hd0
    obtain ⟨hh, hk, hraw, hfo⟩ := hSt.holds (free := 300 - takesAll a) hfl (by omega)
    have hp0 : pg' (lastOf 300 m00 a).place = (pgOf (imgB S) 0 300 (lastOf 300 m00 a).place).set b x := hd'
    have e10 : (pg' (lastOf 300 m00 a).place).take 10 = (pgOf (imgB S) 0 300 (lastOf 300 m00 a).place).take 10 := by rw [hp0, List.take_set_of_le (by omega)]
    have e32 : ((pg' (lastOf 300 m00 a).place).drop 10).take 32 = ((pgOf (imgB S) 0 300 (lastOf 300 m00 a).place).drop 10).take 32 := by
      rw [hp0, List.drop_set, if_neg (by omega), List.take_set_of_le (by omega)]
    have ek : kOf pg' (lastOf 300 m00 a) = l.length := by
      rw [← hk]
      unfold kOf
      rw [hp0]
      simp only [at8, List.getD_eq_getElem?_getD]
      rw [List.getElem?_set_ne (by omega)]
    have erest : rest pg' (lastOf 300 m00 a).place l.length = rest (pgOf (imgB S) 0 300) (lastOf 300 m00 a).place l.length := by
      apply List.map_congr_left
      intro i hi2
      have := List.mem_range.1 hi2
      exact hr' _ (by omega) (by omega)
    have eraw : rawText pg' (lastOf 300 m00 a) = rawText (pgOf (imgB S) 0 300) (lastOf 300 m00 a) := by
      unfold rawText
      rw [ek, hk, e10, erest]
    have efound : Proofs.YtegdlpllljccgaaDoor.found pg' (lastOf 300 m00 a) = l := by
      rw [← hfo]
      unfold Proofs.YtegdlpllljccgaaDoor.found
      rw [ek, hk, erest]
    have hh' : holds pg' (300 - takesAll a) (lastOf 300 m00 a) := by
      refine ⟨⟨?_, ?_, ?_, ?_⟩, ?_⟩
      · rw [e10, ek, ← hk]; exact hh.1.1
      · rw [ek, ← hk]; exact hh.1.2.1
      · rw [ek, ← hk]; exact hh.1.2.2.1
      · rw [ek, ← hk]; exact hh.1.2.2.2
      · rw [eraw, e32]; exact hh.2
    have hc : Clean 300 pg' m00 (a ++ [l]) := fun e h1 h2 => by
      have := h.clean e h1 h2
      rw [h0, Nat.zero_add] at this ⊢
      rw [hoth e h2 (by omega)]; exact this
    have hstop := clean_ends hmod hc (by omega)
    have hlast : lastOf 300 m00 (a ++ [l]) = endM 300 (lastOf 300 m00 a) l := by rw [lastOf_append]; rfl
    rw [hopen, openAll_goes hh' (by omega), efound, ek, eraw, hraw]
    have e3 : behind 300 (lastOf 300 m00 a) l.length (dig (textOf (lastOf 300 m00 a) l)) = lastOf 300 m00 (a ++ [l]) := hlast.symm
    rw [e3, show 300 - takesAll a - takes l.length = 300 - takesAll (a ++ [l]) from by omega, openAll_stop (fun hq => hstop hq.1)]
  · by_cases hh : holds pg' (300 - takesAll a) (lastOf 300 m00 a)
    · right
      obtain ⟨hne, hdg⟩ := turned_or_clash hSt hfl h64 h64' hd hb (fun e => by
        by_cases h42 : b < 42
        · exact h42
        · exact absurd ⟨e, by omega⟩ hnot) (by rw [hpl]; exact hx) hd' hr' hh
      refine ⟨textOf (lastOf 300 m00 a) l, ?_, rawText pg' (lastOf 300 m00 a), ?_, hne, hdg⟩
      · rw [textsOf_append]; simp [textsOf]
      · rw [chainAll_laid (f := 300) (free := 300) hLa hfa (by omega) (Nat.le_refl _)]
        exact List.mem_append_right _ (chainAll_head hh.1 (by omega))
    · left
      rw [hopen, openAll_stop hh]
      simp
end

theorem i64_and6 (n : Int) : bits .and .i64 n 63 = n % 64 := by
  have h6 : (BitVec.ofInt 64 63).toNat = 2 ^ 6 - 1 := by decide
  have key : (BitVec.ofInt 64 n &&& BitVec.ofInt 64 63).toNat = (n % ((2 ^ 64 : Nat) : Int)).toNat % 2 ^ 6 := by
    rw [BitVec.toNat_and, BitVec.toNat_ofInt, h6, Nat.and_two_pow_sub_one_eq_mod]
  show IntKind.i64.wrap ((BitVec.ofInt 64 n &&& BitVec.ofInt 64 63).toNat : Nat) = n % 64
  rw [key, IntKind.wrap_i64]
  omega
theorem xor85 (x : UInt8) : bits .xor .u8 ((x.toNat : Nat) : Int) 85 = (((x ^^^ 85).toNat : Nat) : Int) ∧ x ^^^ 85 ≠ x := by
  have hx := x.toNat_lt
  refine ⟨?_, fun e => ?_⟩
  · have h := Go.u8_xor_nat x.toNat 85 hx (by omega)
    rw [show ((85 : Nat) : Int) = 85 from rfl] at h
    rw [h, UInt8.toNat_xor]; rfl
  · have h : x ^^^ (x ^^^ 85) = x ^^^ x := by rw [e]
    rw [← UInt8.xor_assoc, UInt8.xor_self, UInt8.zero_xor] at h
    exact absurd h (by decide)
theorem RV.only {B gd g first n : Nat} {F K H : Nat → Prop} {S : St} {mc : Mk} {used : Nat} {v : Value} {vs : List Value} {rs : List (List Chg)} {w w' : World} (h : RV B gd g F K S first n mc used v vs rs w) (ho : Only H w w')
    (h1 : ∀ b, F b → ¬ H b) (h2 : ¬ H g) (h3 : ∀ b, v.ownBlock = some b → ¬ H b) (h4 : ∀ b, K b → ¬ H b) : RV B gd g F K S first n mc used v vs rs w' where
  disk := h.disk.keep ho h1
  ring := h.ring.of_block (ho.block g h.ring.lt h2)
  all := own_keep h.all fun b e => ho.block b (h.vlt e).2 (h3 b e)
  recs := h.recs.keep fun b hK => ho.block b (h.dK b hK).2.2 (h4 b hK)
  dK := fun b hK => ⟨(h.dK b hK).1, (h.dK b hK).2.1, Nat.lt_of_lt_of_le (h.dK b hK).2.2 ho.size⟩
  dg := h.dg
  dv := h.dv
  low := h.low
/-- Where the last record begins. -/
def fromOf (rs : List (List Chg)) : Nat := takesAll rs.dropLast
theorem fromOf_snoc (rs : List (List Chg)) (l : List Chg) : fromOf (rs ++ [l]) = takesAll rs := by unfold fromOf; rw [List.dropLast_concat]
theorem fromOf_le (rs : List (List Chg)) : fromOf rs ≤ takesAll rs := by
  unfold fromOf
  rw [List.dropLast_eq_take]
  exact takesAll_take_le _ _
set_option maxRecDepth 100000 in
set_option maxHeartbeats 16000000 in
theorem ringEnds_any (bp : Option Addr) (l : List (Int × Int)) (cap : Nat) (w : World) (h63 : l.length ≤ 9223372036854775807) (hC : PairsAt w.heap.size w bp l) (h0 : bp = none → l.length = 0 ∧ cap = 0) (hI : ∀ q ∈ l, InInt q)
    (ct : Int) (hct : -9223372036854775808 ≤ ct ∧ ct ≤ 9223372036854775807) (hL : Laid w) :
    Calls Tryd.prog 9 #[.slice bp l.length cap, .int .i64 ct] w fun e w' => e = .returned (.bool true) ∧ Below w.heap.size w w' := by
  obtain ⟨L, hLn⟩ : ∃ L, l.length = L := ⟨_, rfl⟩
  rw [hLn] at h0 h63 ⊢
  obtain ⟨bf, hbf⟩ : ∃ bf, decide (L ≤ 40) = bf := ⟨_, rfl⟩
  go_enter Tryd.func9, Tryd.ntmps9
  go_wp2_with (go_at_call 10; refine (stands_any _).mono ?_)
  rintro e w1 ⟨rfl, hb1⟩
  have s1 := hb1.size
  have s0 : w.heap.size ≤ w.heap.size := Nat.le_refl _
  have hfew := few_any bp L cap
  cases bf with
  | false =>
    have hL40 : ¬ L ≤ 40 := of_decide_eq_false hbf
    go_wp2_with (go_at_call 11; refine (hfew (by omega) w1).mono ?_)
    rintro e w2 ⟨rfl, rfl⟩
    rw [hbf]
    go_wp2
    go_ret
    exact ⟨rfl, hb1⟩
  | true =>
    have hL40 : L ≤ 40 := of_decide_eq_true hbf
    by_cases hLz : L = 0
    · subst hLz
      go_wp2_with (go_at_call 11; refine (hfew (by omega) w1).mono ?_)
      rintro e w2 ⟨rfl, rfl⟩
      rw [hbf]
      go_wp2
      go_ret
      exact ⟨rfl, hb1⟩
    have hLz' : ¬ (L : Int) = 0 := by omega
    go_wp2_with (go_at_call 11; refine (hfew (by omega) w1).mono ?_)
    rintro e w2 ⟨rfl, rfl⟩
    rw [hbf]
    clear hbf hfew
    go_wp2_with (go_at_call 12; refine (pd_new 300 (by omega) (by omega) _).mono ?_)
    rintro e w2 ⟨v, rfl, hN⟩
    obtain ⟨gd, F1, rfl, hP1, hF1, hb2⟩ := hN.next s1 hb1
    clear hN hb1
    have s2 := hb2.size
    obtain ⟨hl, Hl⟩ : ∃ hl : List Value, Hid (hl = zMark) := ⟨_, rfl⟩
    have hbm : Hid (Tryd.prog.built 25 [] = some hl.toArray) := by rw [Hl.out]; exact builtPMark
    have hop1 := openv_any hP1 (good_new 300 (by omega) (by omega)) (byt_new 300) rfl (first := 0) (n := 300) (m := m00) (by rw [newS_len]; omega) (by omega) (by omega) (by decide) (by decide) (by decide) Lst.new.found (used := 0) (by simp [takesAll]) (by omega)
    have k0 : ((0 : Nat) : Int) = 0 := rfl
    have k300 : ((300 : Nat) : Int) = 300 := rfl
    rw [← zMark_m00, ← Hl.out, k0, k300] at hop1
    have Hop1 := Lib.hid hop1
    clear hop1 k0 k300
    go_wp2_with (first
      | (refine wpList_buildZ 25 rfl hl.toArray hbm.out rfl ?_)
      | (go_at_call 14; refine Hop1.out.mono ?_))
    rintro e w3 ⟨g, ap0, cp0, rfl, hg, hring, hok, _, hb3⟩
    have hb03 := hb2.trans (hb3.mono s2)
    have s3 := hb03.size
    have hgF : ¬ F1 g := fun h => by have := hP1.lt h; omega
    have hRV : RV w.heap.size gd g F1 (fun _ => False) (newS 300) 0 300 (lastOf 300 m00 []) 0 (.slice none 0 0) [] [] w3 := {
      disk := hP1.below hb3
      ring := hring
      all := World.ownsRow_nil _ _ _ _
      recs := RecsK.nil _ _
      dK := fun b hb => hb.elim
      dg := ⟨hgF, by simp [Value.ownBlock]⟩
      dv := fun b e => by simp [Value.ownBlock] at e
      low := ⟨fun b hf => by have := hF1 b hf; omega, by omega⟩ }
    obtain ⟨is, his, hisz⟩ := Option.map_eq_some_iff.1 infoSlot
    simp only [Prod.mk.injEq] at hisz
    have His := Lib.hid (And.intro his hisz)
    have HC := Lib.hid hC; have HRV := Lib.hid hRV; have HLn := Lib.hid hLn; have HI := Lib.hid hI
    clear Hop1 hP1 hb2 hb3 hok hring his hisz hRV hC hLn hI hgF hF1 hLz hLz'
    go_wp2
    go_loopg [10, 11, 47] L (fun gg av sv i wr => ∃ (k : Nat) (F K : Nat → Prop) (S : St) (rs : List (List Chg)) (vs : List Value) (ap : Option Addr) (cp from_ R : Nat), k ≤ L ∧ gg = L - k ∧ i = .int .i64 (k : Nat) ∧ Hid (rs.length = R) ∧ R ≤ k ∧ Hid (fromOf rs = from_) ∧ av = .slice ap R cp ∧ sv = .int .i64 (from_ : Nat) ∧ Lst S rs 0 ∧ RV w.heap.size gd g F K S 0 300 (lastOf 300 m00 rs) (takesAll rs) (.slice ap R cp) vs rs wr ∧ Below w.heap.size w wr)
    case atStart => exact ⟨0, F1, _, newS 300, [], [], none, 0, 0, 0, by omega, by omega, rfl, rfl, by omega, rfl, rfl, rfl, Lst.new, HRV.out, hb03⟩
    case round =>
      clear HRV hb03
      obtain ⟨k, F, K, S, rs, vs, ap, cp, from_, R, hk, rfl, rfl, HR, hRk, HF, rfl, rfl, hLs, hW, hbel⟩ := hrel
      by_cases hlt : k < L
      case' pos =>
        have hlt' : (k : Int) < L := by omega
        obtain ⟨⟨a0, a1⟩, hqq⟩ : ∃ p, l[k]? = some p := ⟨_, List.getElem?_eq_getElem (by rw [HLn.out]; exact hlt)⟩
        have hin : InInt (a0, a1) := HI.out _ (List.mem_of_getElem? hqq)
        have hCw := HC.out.below hbel
        obtain ⟨b, o, rfl, _, hcs⟩ := hCw.resolve_left (fun h => by rw [h] at hqq; simp at hqq)
        obtain ⟨hp0, hp1⟩ := hcs k _ hqq
        obtain ⟨pc, Hpc⟩ : ∃ pc : List Value, Hid (pc = [.int .i64 a0, .int .i64 a1]) := ⟨_, rfl⟩
        have hrg : wr.rangeAt b (o + k * 2) pc := by
          rw [Hpc.out]
          intro j u hj
          match j, hj with
          | 0, hj => rw [← hj]; exact hp0
          | 1, hj => rw [← hj]; exact hp1
        have Hrg := Lib.hid hrg
        have hci : Hid ((Tryd.prog.info? 27).map (·.size) = some pc.length) := by rw [Hpc.out]; exact infoPair
        have hci2 : Hid ((Tryd.prog.info? 27).map (·.size) = some pc.toArray.size) := by rw [Hpc.out]; exact infoPair
        have hcz : Hid ((#[.int .i64 0, .int .i64 0] : Array Value).size = pc.toArray.size) := by show (#[.int .i64 0, .int .i64 0] : Array Value).size = pc.toArray.size; rw [Hpc.out]; rfl
        have hcone : Hid (pc.toArray.all (·.oneCell') = true) := by rw [Hpc.out]; exact all_oneCell_toArray (fun u hu => by simp only [List.mem_cons, List.not_mem_nil, or_false] at hu; rcases hu with rfl | rfl <;> rfl)
        have hbx : Below wr.heap.size wr (wr.alloc (.cells pc.toArray 27)) := (Below.refl _ _).alloc (Nat.le_refl _) _
        have hxx : (wr.alloc (.cells pc.toArray 27)).heap[wr.heap.size]? = some (.cells pc.toArray 27 (0, 0)) := heap_alloc_new wr _
        have hWx := hW.below hbx
        have hbelx := hbel.trans (hbx.mono hbel.size)
        clear hp0 hp1 hqq hrg hW hbel hcs hCw
        go_upto_region 14 with (first
          | (refine wpList_alloc_arr rfl 27 rfl _ allocPair ?_)
          | (refine wpList_load_mid rfl 27 _ rfl b (o + k * 2) rfl pc _ Hrg.out Tryd.underlying27 rfl hci.out ?_)
          | (refine wpList_store_new rfl 27 _ _ rfl wr.heap.size rfl pc.toArray rfl rfl 27 _ hci2.out hcz.out hcone.out ?_))
        generalize hwx : wr.alloc (.cells pc.toArray 27) = wx at hbx hxx hWx hbelx ⊢
        obtain ⟨y, hy⟩ : ∃ y, wr.heap.size = y := ⟨_, rfl⟩
        rw [hy] at hxx ⊢
        have c0 : wx.cell? ⟨y, 0, none⟩ = some (.int .i64 a0) := by rw [cell_of_row wx y 0 _ _ _ hxx, Hpc.out]; rfl
        have c1 : wx.cell? ⟨y, 1, none⟩ = some (.int .i64 a1) := by rw [cell_of_row wx y 1 _ _ _ hxx, Hpc.out]; rfl
        clear hy hwx hbx hxx Hrg hci hci2 hcz hcone
        go_wp2_with (go_at_call 19; refine (lten_any a0 a1 hin.1 wx).mono ?_)
        rintro e w8 ⟨ap8, cp8, rfl, hown8, hb8⟩
        obtain ⟨n1, n10, _⟩ := tenN_in a0
        obtain ⟨X, hX⟩ : ∃ X, (a1 % 16777216).toNat = X := ⟨_, rfl⟩
        obtain ⟨N, hN⟩ : ∃ N, tenN a0 = N := ⟨_, rfl⟩
        have hX24 : X < 16777216 := by omega
        rw [hX, hN] at hown8
        rw [hX, hN]
        rw [hN] at n1 n10
        rw [chgs_length] at hown8 ⊢
        clear hX hN c0 c1 hin
        have hfit8 := chgs_fit N X n1 (by omega) hX24
        obtain ⟨b8, rfl, hb8lo, hb8hi, hr8⟩ := own_ranges hfit8.what (chgs_length N X) (by omega) hown8
        have hW8 := hWx.fresh hb8 hb8lo hb8hi
        have hR8 : RecsK (fun j => K j ∨ j = b8) w8 [Value.slice (some ⟨b8, 0, none⟩) (chgs N X).length cp8] [chgs N X] := RecsK.one (.inr rfl) hr8
        rw [chgs_length] at hR8
        have hbel8 := hbelx.trans (hb8.mono hbelx.size)
        obtain ⟨K8, hK8⟩ : ∃ K8 : Nat → Prop, (fun j => K j ∨ j = b8) = K8 := ⟨_, rfl⟩
        have hKb8 : K8 b8 := by rw [← hK8]; exact .inr rfl
        rw [hK8] at hW8 hR8
        clear hown8 hr8 hb8lo hb8hi hWx hb8 hbelx hK8
        obtain ⟨bb, hbb⟩ : ∃ bb, fitsB (300 - takesAll rs) N = bb := ⟨_, rfl⟩
        have hfb := fits_any hW8.ring hLs.ring N (by omega)
        rw [hbb] at hfb
        have Hfb := Lib.hid hfb
        clear hfb
        cases bb
        case true =>
          have hfit : takesAll rs + takes N ≤ 300 := by have := ((fitsB_iff _ _).1 hbb).2.2; have := hLs.room; omega
          go_wp2_with (go_at_call 20; refine Hfb.out.mono ?_)
          rintro e w9 ⟨rfl, mq, rfl⟩
          have hW9 := hW8.below (below_drewN w8 mq _)
          have hR9 := hR8.keep (hW8.sameBelow (below_drewN w8 mq _))
          have hbel9 := hbel8.trans (below_drewN w8 mq _)
          generalize w8.drewN mq = w9 at hW9 hR9 hbel9 ⊢
          have hhd := head_any hW9.ring
          obtain ⟨hv9, Hhv9⟩ : ∃ hv9 : Array Value, Hid (hv9 = (markCells (lastOf 300 m00 rs)).toArray) := ⟨_, rfl⟩
          rw [← Hhv9.out] at hhd
          have hfld : ∀ W, (Instr.field 25 (.agg hv9) 0).run Tryd.prog W = .ok (.int .i64 (takesAll rs : Nat)) W := fun W => by
            have htp := takes_pos N
            rw [Hhv9.out, ← hLs.place (by omega)]; exact field_place _ W
          have Hhd := Lib.hid hhd
          obtain ⟨TA, hTA⟩ : ∃ TA, takesAll rs = TA := ⟨_, rfl⟩
          rw [hTA] at hfld
          have HTA := Lib.hid hTA
          clear hW8 hR8 hbel8 Hfb hbb hhd hTA
          go_wp2_with (go_at_call 25; refine Hhd.out.mono ?_)
          rintro e wh ⟨rvh, hrvh, rfl, hbh⟩
          obtain rfl := hrvh.out
          have hW8 := hW9.below hbh
          have hR8 := hR9.keep (hW9.sameBelow hbh)
          have hbel8 := hbel9.trans (hbh.mono hbel9.size)
          clear hW9 hR9 hbel9 hbh Hhd hrvh
          have hadd := padd_any hW8.ring hLs.ring hW8.disk hW8.dg.1 hLs.good (by rw [hLs.firm]; omega) (by have := hLs.ats; have := takesAll_ge rs; have := hLs.room; omega) (chgs N X) (some ⟨b8, 0, none⟩) cp8 hfit8 (hR8.chgs (fun b hb => (hW8.dK b hb).2.2)) (by rw [chgs_length]; omega)
          obtain ⟨hz, hLn⟩ := hLs.add n1 (by omega) hX24 hfit
          obtain ⟨cg, hcg⟩ : ∃ cg, chgs N X = cg := ⟨_, rfl⟩
          have hcgl : cg.length = N := by rw [← hcg, chgs_length]
          rw [hcg] at hadd hz hLn hR8 hfit8
          have he1 : endM 300 (lastOf 300 m00 rs) cg = lastOf 300 m00 (rs ++ [cg]) := by rw [lastOf_append]; rfl
          have he2 : takesAll rs + takes cg.length = takesAll (rs ++ [cg]) := by rw [takesAll_append]; simp [takesAll]
          rw [he1, he2] at hadd
          obtain ⟨r, Hr⟩ : ∃ r, writesOf 0 300 S (lastOf 300 m00 rs).place (sectors (lastOf 300 m00 rs) cg) = r := ⟨_, rfl⟩
          rw [Hr] at hadd hz hLn
          obtain ⟨mc, Hmc⟩ : ∃ mc, lastOf 300 m00 rs = mc := ⟨_, rfl⟩
          obtain ⟨us, Hus⟩ : ∃ us, takesAll rs = us := ⟨_, rfl⟩
          rw [Hmc, Hus] at hadd hW8
          rw [hcgl] at hadd
          have Hadd := Lib.hid hadd
          have Hz := Lib.hid hz; have HLs := Lib.hid hLn
          clear hadd hz hLn Hr Hmc Hus he1 he2 hcg hLs hX24 hfit
          go_wp2_with (go_at_call 22; refine Hadd.out.mono ?_)
          rintro e w10 ⟨v10, G, rfl, hE, hP, hrg, ho, hn⟩
          rw [Hz.out] at hE
          obtain rfl := ErrV.zero hE
          have hW10 := hW8.added hP (hrg.elim (·.2) (fun h => absurd Hz.out h.1)) ho hn
          have hR10 := hR8.keep (hW8.sameAdded ho)
          have hbel10 := hW8.baseAdded hbel8 ho
          have htl := told_any cg (some ⟨b8, 0, none⟩) cp8 hfit8.what (by have := hfit8.le; omega) w10 (hR10.chgs (fun b hb => (hW10.dK b hb).2.2))
          rw [hcgl] at htl
          have Htl := Lib.hid htl
          clear Hadd htl hE hP hrg ho hn hW8 hR8 hbel8 Hz
          go_wp2_with (go_at_call 24; refine Htl.out.mono ?_)
          rintro e w11 ⟨ap11, cp11, rfl, hown11, hb11⟩
          rw [hcgl] at hown11 ⊢
          obtain ⟨b11, rfl, hb11lo, hb11hi, hr11⟩ := own_ranges hfit8.what hcgl (by omega) hown11
          have hW11 := hW10.fresh hb11 hb11lo hb11hi
          have hbel11 := hbel10.trans (hb11.mono hbel10.size)
          have hxs : Below w11.heap.size w11 (w11.alloc (.cells #[.slice (some ⟨b11, 0, none⟩) N cp11] 58)) := (Below.refl _ _).alloc (Nat.le_refl _) _
          have hW12 := hW11.below hxs
          have hbel12 := hbel11.trans (hxs.mono hbel11.size)
          have hr12 : ∀ j c, cg[j]? = some c → (w11.alloc (.cells #[.slice (some ⟨b11, 0, none⟩) N cp11] 58)).rangeAt b11 (j * 65) (chgC c) := fun j c hj => range_keep (hr11 j c hj) (hxs.block b11 hb11hi)
          have hcell : ∀ (j : Nat) (u : Value), [Value.slice (some ⟨b11, 0, none⟩) N cp11][j]? = some u → (w11.alloc (.cells #[.slice (some ⟨b11, 0, none⟩) N cp11] 58)).cell? ((⟨w11.heap.size, 0, none⟩ : Addr).add j) = some u := fun j u hu => by
            match j with
            | 0 =>
              obtain rfl : Value.slice (some ⟨b11, 0, none⟩) N cp11 = u := by simpa using hu
              exact cell_of_row _ w11.heap.size _ _ _ _ (heap_alloc_new w11 _)
            | j + 1 => simp at hu
          have Hcell := Lib.hid hcell
          have hown12 := hW12.all
          rw [HR.out] at hown12
          have HW12 := Lib.hid hW12; have Hr12 := Lib.hid hr12
          clear hcell hxs hown11 hb11 hb11lo hb11hi hr11 hW10 hR10 hbel10 hW11 hbel11 Htl hW12 hr12
          go_upto_region 20 with (first
            | (refine wpList_append_lies _ rfl _ _ 43 rfl w.heap.size 58 is _ 1 24 Tryd.underlying43 His.out.1 His.out.2.1 His.out.2.2.1 His.out.2.2.2 rfl (by omega) _ R vs rfl hown12 ⟨w11.heap.size, 0, none⟩ 1 1 [Value.slice (some ⟨b11, 0, none⟩) N cp11] rfl rfl Hcell.out (fun u hu => by rw [List.mem_singleton.1 hu]; rfl) (by omega) (by unfold maxLen; omega) (by omega) hbel12.size _ rfl ?_; intro g13 cp13 w13 hown13 hgr13 hg13 hlt13))
          have hv13 : (Value.slice (some ⟨g13, 0, none⟩) (R + 1) cp13).ownBlock = _ ∨ ∀ j, (Value.slice (some ⟨g13, 0, none⟩) (R + 1) cp13).ownBlock = some j → (w11.alloc (.cells #[.slice (some ⟨b11, 0, none⟩) N cp11] 58)).heap.size ≤ j := hg13.imp (fun e => e.symm) (fun e j hj => by
            have hj' : some g13 = some j := hj
            have := Option.some.inj hj'
            omega)
          have hW13 := HW12.out.told (l := cg) (cap := cp11) (.inr rfl) Hr12.out (by rw [hcgl, HR.out]; exact hown13) hgr13 hv13
          have hbel13 := below_own hbel12 hown12 hgr13 hbel12.size
          have hA : Hid ((rs ++ [cg]).length = R + 1) := by show (rs ++ [cg]).length = R + 1; rw [List.length_append, HR.out]; rfl
          clear hgr13 hown13 hv13 hg13 HW12 Hr12 Hcell hown12 hbel12 hlt13
          go_wp2
          go_roundg (L - (k + 1))
          case measure => omega
          case rel => exact ⟨k + 1, G, _, r.1, rs ++ [cg], _, some ⟨g13, 0, none⟩, cp13, TA, R + 1, by omega, rfl, by go_num, hA, by omega, by rw [fromOf_snoc]; exact HTA, rfl, rfl, HLs.out, hW13, hbel13⟩
        case' false =>
          go_wp2_with (go_at_call 20; refine Hfb.out.mono ?_)
          rintro e w10 ⟨rfl, mq, rfl⟩
          have hW9 := hW8.below (below_drewN w8 mq _)
          have hbel9 := hbel8.trans (below_drewN w8 mq _)
          generalize w8.drewN mq = w9 at hW9 hbel9 ⊢
          obtain ⟨K9, hK9⟩ : ∃ K9 : Nat → Prop, K8 = K9 := ⟨_, rfl⟩
          rw [hK9] at hW9
          have HLs := Lib.hid hLs
          clear hK9 hW8 hR8 hbel8 Hfb hbb hfit8 hKb8 hLs hlt hlt' n1 n10 hX24 HC HI HLn Hpc
          go_upto_region 21 with (fail)
      case' neg =>
        obtain ⟨w9, hw9⟩ : ∃ w9 : World, wr = w9 := ⟨_, rfl⟩
        obtain ⟨K9, hK9⟩ : ∃ K9 : Nat → Prop, K = K9 := ⟨_, rfl⟩
        have hlt' : ¬ (k : Int) < L := by omega
        have hW9 := hW
        have hbel9 := hbel
        rw [hw9] at hW9 hbel9 ⊢
        rw [hK9] at hW9
        have HLs := Lib.hid hLs
        clear hw9 hK9 hLs hW hbel HC HI HLn
        go_upto_region 21 with (fail)
        clear hlt hlt'
      all_goals
        have hsR : R ≤ 300 := by have := takesAll_ge rs; have := HLs.out.room; have := HR.out; omega
        have hcnt : S.ats.length ≤ 1048576 := by have := HLs.out.ats; have := HR.out; omega
        have hfr := fromOf_le rs
        rw [HF.out] at hfr
        have hroom := HLs.out.room
        have hhd := head_any hW9.ring
        obtain ⟨hv9, Hhv9⟩ : ∃ hv9 : Array Value, Hid (hv9 = (markCells (lastOf 300 m00 rs)).toArray) := ⟨_, rfl⟩
        rw [← Hhv9.out] at hhd
        obtain ⟨P, hP⟩ : ∃ P, (lastOf 300 m00 rs).place = P := ⟨_, rfl⟩
        have hP300 : P < 300 := by rw [← hP]; exact lastOf_place_lt (by omega) rs (by decide)
        have hfld : ∀ W, (Instr.field 25 (.agg hv9) 0).run Tryd.prog W = .ok (.int .i64 (P : Nat)) W := fun W => by
          rw [Hhv9.out, ← hP]; exact field_place _ W
        have Hhd := Lib.hid hhd; have HP := Lib.hid hP
        clear hhd hP Hhv9
        go_wp2_with (go_at_call 25; refine Hhd.out.mono ?_)
        rintro e wh ⟨rvh, hrvh, rfl, hbh⟩
        obtain rfl := hrvh.out
        have hWh := hW9.below hbh
        have hbelh := hbel9.trans (hbh.mono hbel9.size)
        clear hW9 hbel9 hbh Hhd hrvh
        by_cases hn2 : P < from_ + 2
        · obtain ⟨z, hz⟩ : ∃ z : Int, (P : Int) - (from_ : Int) = z := ⟨_, rfl⟩
          have wS : IntKind.i64.wrap ((P : Int) - (from_ : Int)) = z := by rw [IntWalk.i64_in _ (by omega)]; exact hz
          have hz2 : z < 2 := by omega
          have hz3 : IntKind.i64.wrap z = z := IntWalk.i64_in _ (by omega)
          clear hz
          go_wp2
          go_ret
          exact ⟨rfl, hbelh⟩
        · have hPt : P = takesAll rs := by
            by_cases h3 : takesAll rs = 300
            · exfalso
              have h1 := lastOf_place 300 rs m00
              have e0 : m00.place = 0 := rfl
              rw [e0, h3, HP.out] at h1
              omega
            · rw [← HP.out]; exact HLs.out.place (by omega)
          have hne : rs ≠ [] := fun h => by rw [h] at hPt; simp [takesAll] at hPt; omega
          obtain ⟨ra, rl, hrs⟩ : ∃ ra rl, rs = ra ++ [rl] := ⟨rs.dropLast, rs.getLast hne, (List.dropLast_concat_getLast hne).symm⟩
          have hfa : takesAll ra = from_ := by rw [← HF.out, hrs, fromOf_snoc]
          obtain ⟨n, hn⟩ : ∃ n, P - from_ = n := ⟨_, rfl⟩
          have htl : takes rl.length = n := by
            have : takesAll rs = takesAll ra + takes rl.length := by rw [hrs, takesAll_append, takesAll_cons]; simp [takesAll]
            omega
          have wS : IntKind.i64.wrap ((P : Int) - (from_ : Int)) = (n : Int) := by rw [IntWalk.i64_in _ (by omega)]; omega
          have wS2 : IntKind.i64.wrap (n : Int) = (n : Int) := IntWalk.i64_in _ (by omega)
          have hz2 : ¬ (n : Int) < 2 := by omega
          have hn0 : ¬ (n : Int) = 0 := by omega
          have hnz : ¬ n = 0 := by omega
          have t1 := Int.tmod_lt_of_pos ct (show (0 : Int) < (n : Int) by omega)
          have t2 : -(n : Int) < ct.tmod (n : Int) := Int.lt_tmod_of_pos ct (by omega)
          obtain ⟨t, ht⟩ : ∃ t : Int, ct.tmod (n : Int) = t := ⟨_, rfl⟩
          rw [ht] at t1 t2
          obtain ⟨s, hs⟩ : ∃ s : Nat, t + (n : Int) = (s : Int) := ⟨(t + (n : Int)).toNat, by omega⟩
          obtain ⟨d, hd⟩ : ∃ d : Nat, s % n = d := ⟨_, rfl⟩
          have hdn : d < n := by rw [← hd]; exact Nat.mod_lt _ (by omega)
          obtain ⟨at_, hat⟩ : ∃ at_ : Nat, from_ + d = at_ := ⟨_, rfl⟩
          have wT : IntKind.i64.wrap (t + (n : Int)) = (s : Int) := by rw [IntWalk.i64_in _ (by omega)]; exact hs
          have wT2 : IntKind.i64.wrap (s : Int) = (s : Int) := IntWalk.i64_in _ (by omega)
          have wT3 : IntKind.i64.wrap t = t := IntWalk.i64_in _ (by omega)
          have wD : (s : Int).tmod (n : Int) = (d : Int) := by rw [Int.tmod_eq_emod_of_nonneg (by omega)]; omega
          have wD1 : (s : Int) % (n : Int) = (d : Int) := by omega
          have wD2 : IntKind.i64.wrap (d : Int) = (d : Int) := IntWalk.i64_in _ (by omega)
          have wA1 : IntKind.i64.wrap ((from_ : Int) + (d : Int)) = (at_ : Int) := by rw [IntWalk.i64_in _ (by omega)]; omega
          have hat300 : at_ < 300 := by omega
          have Hs := Lib.hid hs; have Hd := Lib.hid hd; have Hat := Lib.hid hat; have Hn := Lib.hid hn; have Hrs := Lib.hid hrs; have Hfa := Lib.hid hfa; have Htl := Lib.hid htl; have HPt := Lib.hid hPt
          clear hs hd hat hn hrs hfa htl hPt hn2 hne t1 t2
          obtain ⟨sv, Hsv⟩ : ∃ sv : Array Value, Hid (sv = #[.slice none 0 0, .int .i64 0]) := ⟨_, rfl⟩
          have hbS : Hid (Tryd.prog.built 74 [] = some sv) := by rw [Hsv.out]; exact builtSeen
          go_upto_region 26 with (first
            | (refine wpList_buildZ 74 rfl sv hbS.out rfl ?_))
          clear wS wS2 hz2 hn0 hnz wT wT2 wT3 wD wD1 wD2 wA1 ht hfld
          have hbA : Below wh.heap.size wh (wh.alloc (.cells sv 74)) := (Below.refl _ _).alloc (Nat.le_refl _) _
          have hqA : (wh.alloc (.cells sv 74)).heap[wh.heap.size]? = some (.cells #[.slice none 0 0, .int .i64 0] 74 (0, 0)) := by rw [← Hsv.out]; exact heap_alloc_new wh _
          have hszA : (wh.alloc (.cells sv 74)).heap.size = wh.heap.size + 1 := by simp
          generalize wh.alloc (.cells sv 74) = wA at hbA hqA hszA ⊢
          obtain ⟨q, hq⟩ : ∃ q, wh.heap.size = q := ⟨_, rfl⟩
          rw [hq] at hqA hszA ⊢
          have Hq := Lib.hid hq
          have hSA : SeenW q q (fun _ => False) (.slice none 0 0) [] [] wA := ⟨hqA, World.ownsRow_nil _ _ _ _, rfl, fun i im h => by simp at h, fun b h => h.elim, by simp [Value.ownBlock], Nat.le_refl _⟩
          have hlA := look_any hSA (hWh.disk.below hbA) HLs.out.byt HLs.out.lit.on 300 HLs.out.firm (by omega) (by omega) (by omega) (by simp)
          have HlA := Lib.hid hlA; have HbA := Lib.hid hbA; have HWh := Lib.hid hWh; have Hbelh := Lib.hid hbelh
          have hFq : ∀ b, F b → b < q := fun b hb => by have := hWh.disk.lt hb; omega
          have hKq : ∀ b, K9 b → b < q := fun b hb => by have := (hWh.dK b hb).2.2; omega
          have hgq : g < q := by have := hWh.ring.lt; omega
          have hvq : ∀ b, (Value.slice ap R cp).ownBlock = some b → b < q := fun b e => by have := (hWh.vlt e).2; omega
          have hqw : wh.heap.size ≤ wA.heap.size := hbA.size
          clear hlA hSA hqA hq hbA hWh hbelh hbS Hsv
          go_wp2_with (go_at_call 31; refine HlA.out.mono ?_)
          rintro e wB ⟨rfl, vB, bB, cB, hbB, hSB, hoB, hvB⟩
          have hAB : Below wh.heap.size wA wB := hoB.base hqw (fun j hj => by
            have hqo := Hq.out
            rcases hj with h | h
            · omega
            · simp [Value.ownBlock] at h)
          have hhB : Below wh.heap.size wh wB := HbA.out.trans hAB
          have hWB := HWh.out.below hhB
          have hwB : Below w.heap.size w wB := Hbelh.out.trans (hhB.mono Hbelh.out.size)
          have hred := pd_read hWB.disk (at_ : Int)
          rw [img_read HLs.out.byt HLs.out.lit.on (by rw [HLs.out.firm]; exact hat300)] at hred
          obtain ⟨p, Hp⟩ : ∃ p, Hid (p = (imgB S).getD at_ []) := ⟨_, rfl⟩
          have hp64 : p.length = 64 := by rw [Hp.out]; exact (imgB_get HLs.out.byt (by rw [HLs.out.firm]; exact hat300)).2
          rw [← Hp.out] at hred
          obtain ⟨qv, Hqv⟩ : ∃ qv : List Value, Hid (qv = p.map cu8) := ⟨_, rfl⟩
          rw [← Hqv.out] at hred
          have hqvl : qv.length = 64 := by rw [Hqv.out, List.length_map, hp64]
          have hqi : Hid ((Tryd.prog.info? 63).map (·.size) = some qv.toArray.size) := by rw [List.size_toArray, hqvl]; exact info64
          have hqz : Hid (zeros64.size = qv.toArray.size) := by rw [show qv.toArray.size = 64 from by rw [List.size_toArray, hqvl]]; exact (rfl : zeros64.size = 64)
          have hq1 : Hid (qv.toArray.all (·.oneCell') = true) := by rw [Hqv.out]; exact bytes_one _
          have Hred := Lib.hid hred; have HWB := Lib.hid hWB; have HwB := Lib.hid hwB; have HSB := Lib.hid hSB; have Hqvl := Lib.hid hqvl
          have hvlB : ∀ j, vB.ownBlock = some j → q < j := fun j e => by
            have hqo := Hq.out
            rcases hvB j e with h' | h'
            · simp [Value.ownBlock] at h'
            · omega
          clear HlA hred hoB hAB hWB hwB hSB hqvl hvB hhB HWh Hbelh HbA
          go_wp2_with (go_at_call 28; refine Hred.out.mono ?_)
          rintro e wC ⟨ev, rfl, hE, hbC⟩
          obtain rfl := ErrV.zero hE
          have hWC := HWB.out.below hbC
          have hSC := HSB.out.below hbC
          have hwC := HwB.out.trans (hbC.mono HwB.out.size)
          clear hE Hred HWB HSB HwB hbC
          go_upto_region 28 with (first
            | (refine wpList_alloc_arr rfl 63 rfl _ alloc64 ?_)
            | (refine wpList_store_new rfl 63 _ _ rfl wC.heap.size rfl qv.toArray rfl rfl 63 _ hqi.out hqz.out hq1.out ?_))
          have hbD : Below wC.heap.size wC (wC.alloc (.cells qv.toArray 63)) := (Below.refl _ _).alloc (Nat.le_refl _) _
          have hyD : (wC.alloc (.cells qv.toArray 63)).heap[wC.heap.size]? = some (.cells qv.toArray 63 (0, 0)) := heap_alloc_new wC _
          have hszD : wC.heap.size < (wC.alloc (.cells qv.toArray 63)).heap.size := by simp
          generalize wC.alloc (.cells qv.toArray 63) = wD at hbD hyD hszD ⊢
          obtain ⟨y, hy⟩ : ∃ y, wC.heap.size = y := ⟨_, rfl⟩
          rw [hy] at hyD hszD ⊢
          have Hy := Lib.hid hy; have HWC := Lib.hid hWC; have HSC := Lib.hid hSC; have HwC := Lib.hid hwC; have HbD := Lib.hid hbD
          clear hy hbD hWC hSC hwC hqz
          obtain ⟨bi, hbi⟩ : ∃ bi : Nat, (ct % 64) = (bi : Int) := ⟨(ct % 64).toNat, by omega⟩
          have hbi64 : bi < 64 := by omega
          have f1 : bits .and .i64 ct 63 = (bi : Int) := by rw [i64_and6]; exact hbi
          obtain ⟨c64, hc64⟩ : ∃ c64 : Nat, bi + 64 = c64 := ⟨_, rfl⟩
          have f2 : IntKind.i64.wrap ((bi : Int) + 64) = (c64 : Int) := by rw [IntWalk.i64_in _ (by omega)]; omega
          have f3 : (c64 : Int).tmod 64 = (bi : Int) := by rw [Int.tmod_eq_emod_of_nonneg (by omega)]; omega
          have f4 : (c64 : Int) % 64 = (bi : Int) := by omega
          have f5 : IntKind.i64.wrap (bi : Int) = (bi : Int) := IntWalk.i64_in _ (by omega)
          have f6 : IntKind.i64.wrap (c64 : Int) = (c64 : Int) := IntWalk.i64_in _ (by omega)
          have hbiI : (bi : Int) < 64 := by omega
          obtain ⟨x0, hx0⟩ : ∃ x0, at8 p bi = x0 := ⟨_, rfl⟩
          obtain ⟨hxor, hxne⟩ := xor85 x0
          obtain ⟨x1, hx1⟩ : ∃ x1, x0 ^^^ 85 = x1 := ⟨_, rfl⟩
          rw [hx1] at hxor hxne
          obtain ⟨n0, hn0⟩ : ∃ n0 : Nat, x0.toNat = n0 := ⟨_, rfl⟩
          obtain ⟨n1, hn1⟩ : ∃ n1 : Nat, x1.toNat = n1 := ⟨_, rfl⟩
          have hn1l : n1 < 256 := by rw [← hn1]; exact x1.toNat_lt
          rw [hn0, hn1] at hxor
          have c8 : wD.cell? ⟨y, bi, none⟩ = some (.int .u8 (n0 : Int)) := by
            rw [cell_of_row wD y bi _ _ _ hyD, List.getElem?_toArray, Hqv.out, List.getElem?_map, List.getElem?_eq_getElem (show bi < p.length by omega), ← hn0, ← hx0]
            simp [at8, List.getD_eq_getElem?_getD, List.getElem?_eq_getElem (show bi < p.length by omega), cu8, bz_eq]
          have fz : wD.frozen? ⟨y, bi, none⟩ = false := thawed_row hyD bi
          have hxw : IntKind.u8.wrap (n1 : Int) = (n1 : Int) := by rw [IntKind.wrap_u8']; omega
          have hyE : (wD.setCell ⟨y, bi, none⟩ (.int .u8 (n1 : Int))).heap[y]? = some (.cells (((p.set bi x1).map cu8)).toArray 63 (0, 0)) := by
            rw [setCell_row hyD bi _, List.map_set, ← Hqv.out]
            have e : Value.int .u8 (n1 : Int) = cu8 x1 := by rw [cu8, bz_eq, hn1]
            rw [e]
          have hgE : wD.grownBy (wD.setCell ⟨y, bi, none⟩ (.int .u8 (n1 : Int))) (some y) := ⟨rfl, rfl, rfl, by simp [World.setCell], fun k _ hne => by
            have : y ≠ k := fun e => hne (by rw [e])
            simp [World.setCell, Array.getElem?_modify, this]⟩
          have Hbi := Lib.hid hbi; have Hx0 := Lib.hid hx0
          clear hbi hx0 hx1 hn0 hn1 hyD hqi hq1
          go_upto_region 29 with (fail)
          have hbE : Below wC.heap.size wC (wD.setCell ⟨y, bi, none⟩ (.int .u8 (n1 : Int))) := below_of_grown HbD.out hgE (by have := Hy.out; omega) (by have := Hy.out; omega)
          generalize wD.setCell ⟨y, bi, none⟩ (.int .u8 (n1 : Int)) = wE at hyE hgE hbE ⊢
          have hWE := HWC.out.below hbE
          have hSE := HSC.out.below hbE
          have hwE := HwC.out.trans (hbE.mono HwC.out.size)
          obtain ⟨p2, Hp2⟩ : ∃ p2, Hid (p2 = p.set bi x1) := ⟨_, rfl⟩
          rw [← Hp2.out] at hyE
          have hp264 : p2.length = 64 := by rw [Hp2.out, List.length_set, hp64]
          have hBP : BP (p2.map cu8) := ⟨p2, hp264, rfl⟩
          have hwr := pd_write hWE.disk HLs.out.good hcnt (at_ : Int) (p2.map cu8) hBP.page
          obtain ⟨hwe, hlit⟩ := Lit.write HLs.out.lit (i := at_) (by rw [HLs.out.firm]; exact hat300) (p2.map cu8)
          have hgood2 := good_write HLs.out.good (at_ : Int) (p2.map cu8)
          have hbyt2 := byt_write HLs.out.byt (at_ : Int) hBP
          have hfirm2 : (writeOf S (at_ : Int) (p2.map cu8)).1.firm.length = 300 := by rw [write_firm]; exact HLs.out.firm
          have himg2 : imgB (writeOf S (at_ : Int) (p2.map cu8)).1 = (imgB S).set at_ p2 := by rw [hwe]; exact imgB_write HLs.out.good p2
          have hz2 : (writeOf S (at_ : Int) (p2.map cu8)).2 = 0 := by rw [hwe]
          obtain ⟨S2, HS2⟩ : ∃ S2, (writeOf S (at_ : Int) (p2.map cu8)).1 = S2 := ⟨_, rfl⟩
          rw [HS2, hz2] at hwr
          rw [HS2] at hlit hgood2 hbyt2 hfirm2 himg2
          obtain ⟨pv2, Hpv2⟩ : ∃ pv2 : List Value, Hid (pv2 = p2.map cu8) := ⟨_, rfl⟩
          rw [← Hpv2.out] at hwr hyE
          have hpv2i : Hid ((Tryd.prog.info? 63).map (·.size) = some pv2.toArray.size) := by rw [List.size_toArray, Hpv2.out, List.length_map, hp264]; exact info64
          have Hwr := Lib.hid hwr; have HWE := Lib.hid hWE; have HSE := Lib.hid hSE; have HwE := Lib.hid hwE
          clear hwr hWE hSE hwE hbE hgE hwe hz2 HS2 HWC HSC HwC HbD c8 fz f1 f2 f3 f4 f5 f6 hxor hxw
          go_wp2_with (first
            | (refine wpList_load_row rfl 63 _ rfl y rfl 63 pv2.toArray (0, 0) _ hyE Tryd.underlying63 rfl hpv2i.out ?_)
            | (go_at_call 35; refine Hwr.out.mono ?_))
          rintro e wF ⟨vF, rfl, G, hEF, hPF, hoF, hnF⟩
          obtain rfl := ErrV.zero hEF
          have hWF := HWE.out.flushed hPF hoF hnF
          have hqE : q < wE.heap.size := HSE.out.lt
          have hvE := fun j (e : vB.ownBlock = some j) => (HSE.out.own.lt j e).2
          have hGH : ∀ b, G b → ¬ (b = q ∨ vB.ownBlock = some b) := fun b hb h => by
            rcases hnF b hb with h1 | h1
            · have := hFq b h1
              rcases h with h2 | h2
              · omega
              · have := hvlB b h2; omega
            · rcases h with h2 | h2
              · omega
              · have := hvE b h2; omega
          have hqF : q < wF.heap.size := by have := hoF.size; omega
          have hvF : ∀ j, vB.ownBlock = some j → q < j ∧ j < wF.heap.size := fun j e => ⟨hvlB j e, by have := hvE j e; have := hoF.size; omega⟩
          have hSF := HSE.out.only hoF (fun h => by have := hFq q h; omega) (fun j e h => by have := hFq j h; have := hvlB j e; omega) (fun j hj h => by
            have := hFq j h
            rcases hj with hj | hj
            · exact hj
            · omega)
          have hwF := HWE.out.baseFlushed HwE.out hoF
          have hopn := open_any hWF.disk hgood2 hbyt2 hlit.on (first := 0) (n := 300) (m := m00) (by rw [hfirm2]; omega) (by omega) (by omega) (by decide) (by decide) (by decide)
          have k0 : ((0 : Nat) : Int) = 0 := rfl
          have k300 : ((300 : Nat) : Int) = 300 := rfl
          rw [← zMark_m00, ← Hl.out, k0, k300] at hopn
          have hpg64 : ∀ i, (pgOf (imgB S2) 0 300 i).length = 64 := fun i => pg_len hbyt2 (by rw [hfirm2]; omega) (by omega) i
          have hLra : Lst S (ra ++ [rl]) 0 := Hrs.out ▸ HLs.out
          have hpgat : pgOf (imgB S) 0 300 at_ = p := by unfold pgOf; rw [Nat.mod_eq_of_lt hat300, Nat.zero_add, Hp.out]
          have hturn := hLra.turned (d := d) (b := bi) (x := x1) (pg' := pgOf (imgB S2) 0 300) (by rw [← Hrs.out, ← HPt.out]; exact hP300) (by rw [Htl.out]; exact hdn) hbi64 (by rw [Hfa.out, Hat.out, hpgat, Hx0.out]; exact hxne) (by rw [Hfa.out, Hat.out, hpgat, himg2, Hp2.out])
          have htx := hLra.texts
          have hral : ra.length + 1 = R := by have := HR.out; rw [Hrs.out, List.length_append] at this; simpa using this
          have htake : rs.take (R - 1) = ra := by rw [Hrs.out, show R - 1 = ra.length from by omega]; exact List.take_left
          obtain ⟨A, HA⟩ : ∃ A, Hid (A = (openAll 300 (pgOf (imgB S2) 0 300) 300 300 m00).1) := ⟨_, rfl⟩
          rw [← HA.out] at hturn
          have Hturn := Lib.hid hturn; have Htx := Lib.hid htx; have Htake := Lib.hid htake; have Hopn := Lib.hid hopn; have HWF := Lib.hid hWF; have HSF := Lib.hid hSF; have HwF := Lib.hid hwF
          clear hopn k0 k300 hturn htx hLra hpgat htake hWF hSF hwF hoF hnF hPF hEF HWE HSE HwE Hwr hyE hpv2i Hpv2 hBP hvlB hFq hqE hvE
          go_wp2_with (first
            | (refine wpList_buildZ 25 rfl hl.toArray hbm.out rfl ?_)
            | (go_at_call 14; refine Hopn.out.mono ?_))
          rintro e wG ⟨g3, vE, vsE, usE, rfl, _, _, _, _, hownE, hrecE, hbG⟩
          obtain ⟨apE, cpE, rfl⟩ := row_form hownE
          have hrv := recsV_found hpg64 hownE hrecE
          rw [← HA.out] at hrv hownE hrecE ⊢
          have hWG := HWF.out.below hbG
          have hSG := HSF.out.below hbG
          have hwG := HwF.out.trans (hbG.mono HwF.out.size)
          have hAR : A.length ≤ 300 := by rw [HA.out]; exact open_count _ _ _
          have hrallW : ∀ W, RV w.heap.size gd g G K9 S2 0 300 (lastOf 300 m00 rs) (takesAll rs) (.slice ap R cp) vs rs W → RecsV W.heap.size W ap rs := fun W hW => hW.recs.recsV (cp := cp) (by have := hW.all; rw [HR.out] at this ⊢; exact this) HLs.out.fit (fun b hb => (hW.dK b hb).2.2)
          have hrall := hrallW wG hWG
          have hcap : R ≤ cp := by have := hWG.all; rw [HR.out] at this; exact cap_ge this
          obtain ⟨AL, hAL⟩ : ∃ AL, A.length = AL := ⟨_, rfl⟩
          have hRl : rs.length = R := HR.out
          clear hbG HWF HSF HwF Hopn
          have f1 : bits .and .i64 ct 63 = (bi : Int) := by rw [i64_and6]; exact Hbi.out
          have f2 : IntKind.i64.wrap ((bi : Int) + 64) = (c64 : Int) := by rw [IntWalk.i64_in _ (by omega)]; omega
          have f3 : (c64 : Int).tmod 64 = (bi : Int) := by rw [Int.tmod_eq_emod_of_nonneg (by omega)]; omega
          have f4 : (c64 : Int) % 64 = (bi : Int) := by omega
          have f5 : IntKind.i64.wrap (bi : Int) = (bi : Int) := IntWalk.i64_in _ (by omega)
          have f6 : IntKind.i64.wrap (c64 : Int) = (c64 : Int) := IntWalk.i64_in _ (by omega)
          rw [hAL]
          by_cases hd0 : d = 0
          case' pos =>
            have hef : (at_ : Int) = (from_ : Int) := by have := Hat.out; omega
            by_cases h42 : 42 ≤ bi
            case pos =>
              have h42' : (42 : Int) ≤ (bi : Int) := by omega
              have hAr : A = rs := by rw [Hrs.out]; exact Hturn.out.1 ⟨hd0, h42⟩
              have hsm := same_any A rs apE ap cpE cp wG hrv hrall ⟨by omega, by omega⟩
              rw [hAL, hRl, decide_eq_true hAr] at hsm
              have Hsm := Lib.hid hsm
              clear hsm hAr hrv hrall hRl hAL Hturn HA hWG hSG hd0 hc64
              go_wp2_with (go_at_call 18; refine Hsm.out.mono ?_)
              rintro e wH ⟨rfl, hbH⟩
              go_wp2
              go_ret
              exact ⟨rfl, hwG.trans (hbH.mono hwG.size)⟩
            case' neg =>
              have h42' : ¬ (42 : Int) ≤ (bi : Int) := by omega
              have hnot : ¬ (d = 0 ∧ 42 ≤ bi) := fun h => h42 h.2
              clear hc64
              go_upto_region 33 with (fail)
              clear hef h42 h42'
          case' neg =>
            have hef : ¬ (at_ : Int) = (from_ : Int) := by have := Hat.out; omega
            have hnot : ¬ (d = 0 ∧ 42 ≤ bi) := fun h => hd0 h.1
            clear hc64
            go_upto_region 33 with (fail)
            clear hef
          all_goals
            clear f1 f2 f3 f4 f5 f6 hd0
            have hlG := look_any hSG hWG.disk hbyt2 hlit.on 300 hfirm2 (by omega) (by omega) (by have := hSG.lt; omega) (by simp)
            have HlG := Lib.hid hlG
            have hqG := hSG.lt
            have hqo := Hq.out
            clear hlG hqo hqG
            go_wp2_with (go_at_call 31; refine HlG.out.mono ?_)
            rintro e wH ⟨rfl, vH, bH, cH, hbH, hSH, hoH, hvH⟩
            have hnH : ∀ b, (b = q ∨ vB.ownBlock = some b) → q ≤ b := fun b h => h.elim (fun e => by omega) (fun e => by have := (hvF b e).1; omega)
            have hWH := hWG.only hoH hGH (fun h => by have := hnH g h; omega) (fun b e h => by have := hnH b h; have := hvq b e; omega) (fun b hb h => by have := hnH b h; have := hKq b hb; omega)
            have hltH : ∀ b, wF.heap.size ≤ b → ¬ (b = q ∨ vB.ownBlock = some b) := fun b hb h => by
              rcases h with h | h
              · omega
              · have := (hvF b h).2; omega
            have hownH := own_keep hownE fun b e => hoH.block b (hownE.lt b e).2 (hltH b (hownE.lt b e).1)
            have hrecH := hrecE.keep fun b cs hb h => hoH.block b (Array.getElem?_eq_some_iff.1 h).1 (hltH b hb)
            have hrv := (show RecsV wH.heap.size wH apE A from by have h1 := hownH; have h2 := hrecH; rw [HA.out] at h1 h2 ⊢; exact recsV_found hpg64 h1 h2)
            have hrall := hrallW wH hWH
            have hwH : Below w.heap.size w wH := hwG.trans (hoH.base hwG.size (fun j hj => by have := hnH j hj; have := hWG.low.2; omega))
            obtain ⟨R1, hR1⟩ : ∃ R1, R - 1 = R1 := ⟨_, rfl⟩
            have wR : IntKind.i64.wrap ((R : Int) - 1) = (R1 : Int) := by rw [IntWalk.i64_in _ (by omega)]; omega
            have wR2 : IntKind.i64.wrap (R1 : Int) = (R1 : Int) := IntWalk.i64_in _ (by omega)
            have hsl := fun W => run_first (P := Tryd.prog) 43 58 Tryd.underlying43 (by kernel_rfl) ap R cp R1 (by omega) W
            have hR1l : ra.length = R1 := by omega
            have hrt : RecsV wH.heap.size wH ap ra := by rw [← Htake.out]; exact hrall.take _
            have hsm := same_any A ra apE ap cpE cp wH hrv hrt ⟨by omega, by omega⟩
            rw [hAL, hR1l] at hsm
            have hszw : w.heap.size ≤ wH.heap.size := hwH.size
            by_cases hAra : A = ra
            · rw [decide_eq_true hAra] at hsm
              have Hsm := Lib.hid hsm
              clear hsm hAra hrv hrall hrt hRl hAL Hturn HA hWG hSG hSH hWH hownH hrecH hownE hrecE HlG hR1 hR1l
              go_wp2_with (go_at_call 18; refine Hsm.out.mono ?_)
              rintro e wI ⟨rfl, hbI⟩
              go_wp2
              go_ret
              exact ⟨rfl, hwH.trans (hbI.mono hszw)⟩
            · rw [decide_eq_false hAra] at hsm
              have hclash : Clashes (textsOf 300 m00 (ra ++ [rl])) (chainAll 300 (pgOf (imgB S2) 0 300) 300 300 m00).1 := (Hturn.out.2 hnot).resolve_left hAra
              have hi1 : (imgB S).length = 300 := HLs.out.img_len
              have hi2 : (imgB S2).length = 300 := by rw [imgB_length, hfirm2]
              have hchains : ∀ (W : World), Below wH.heap.size wH W → Calls Tryd.prog 33 #[.pointer (some ⟨q, 0, none⟩), .slice (some ⟨W.heap.size, 0, none⟩) 1 1] (W.alloc (.cells hl.toArray 25)) (fun e w' => e = .returned (.bool true) ∧ Below W.heap.size W w') := fun W hW => by
                have hbW : Below W.heap.size W (W.alloc (.cells hl.toArray 25)) := (Below.refl _ _).alloc (Nat.le_refl _) _
                refine (chains_any (bm := W.heap.size) ((hSH.below hW).below hbW) (by rw [Hl.out, zMark_m00]; exact heap_alloc_new W _) (fun im him => ?_) (by simp) (by simp) 1).mono ?_
                · simp only [List.nil_append, List.cons_append, List.mem_cons, List.not_mem_nil, or_false] at him
                  rcases him with rfl | rfl
                  · rw [hi1]; omega
                  · rw [hi2]; omega
                · rintro e w' ⟨b, rfl, hb, hcl⟩
                  refine ⟨?_, hbW.trans (hb.mono hbW.size)⟩
                  cases b with
                  | true => rfl
                  | false =>
                    exfalso
                    obtain ⟨t, ht, u, hu, hne, hd⟩ := hclash
                    have e1 : imgTexts (imgB S) = textsOf 300 m00 (ra ++ [rl]) := by unfold imgTexts; rw [hi1]; exact Htx.out
                    have e2 : imgTexts (imgB S2) = (chainAll 300 (pgOf (imgB S2) 0 300) 300 300 m00).1 := by unfold imgTexts; rw [hi2]
                    refine hne (hcl rfl t ?_ u ?_ hd)
                    · simp only [List.nil_append, List.cons_append, List.flatMap_cons, List.flatMap_nil, List.append_nil, List.mem_append]
                      left; rw [e1]; exact ht
                    · simp only [List.nil_append, List.cons_append, List.flatMap_cons, List.flatMap_nil, List.append_nil, List.mem_append]
                      right; rw [e2]; exact hu
              have hll : hl.length = 34 := by rw [Hl.out]; rfl
              have hmo := infoMarkL
              have Hch := Lib.hid hchains; have Hll := Lib.hid hll; have Hsm := Lib.hid hsm
              clear hchains hclash hSH hSG hWG hWH hownH hrecH hownE hrecE hi1 hi2 hll hsm hAra hrv hrall hrt hRl hAL Hturn HA HlG hR1 hR1l
              go_wp2_with (go_at_call 18; refine Hsm.out.mono ?_)
              rintro e wI ⟨rfl, hbI⟩
              have Hc := Lib.hid (Hch.out wI hbI)
              clear Hsm Hch
              go_wp2_with (first
                | (refine wpList_buildZ 25 rfl hl.toArray hbm.out rfl ?_)
                | (refine wpList_row1g 117 25 _ rfl hl 34 zMark 48 Tryd.underlying117 hmo (by omega) (by omega) zMark_len Hll.out rfl rfl ?_)
                | (go_at_call 33; refine Hc.out.mono ?_))
              rintro e wJ ⟨rfl, hbJ⟩
              go_wp2
              go_ret
              exact ⟨rfl, (hwH.trans (hbI.mono hszw)).trans (hbJ.mono (Nat.le_trans hszw hbI.size))⟩
end Go.Proofs.YtegdlpllljccgaaDoor
