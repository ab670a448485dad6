/-
  'ShaTwo': its walk.
-/
import Derived.Test.YtcnjffckjcoafaaShaThree
import Derived.OrdersHeld
namespace Go.Proofs.Ytcnjffckjcoafaa
open Go.RowKit Sh

theorem take_one (bs : List UInt8) (k : Nat) (h : k < bs.length) : bs.take (k + 1) = bs.take k ++ [at8 bs k] := by
  rw [List.take_add_one, List.getElem?_eq_getElem h]
  simp [at8, List.getD_eq_getElem?_getD, List.getElem?_eq_getElem h]
theorem Bytes.cut_one {N : Nat} {w : World} {bp : Option Addr} {len cap : Nat} {bs : List UInt8} (h : Bytes N w bp len cap bs) (k : Nat) (hk : k < len) : Bytes N w (cutAt bp cap k) 1 (cap - k) [at8 bs k] := by
  have := h.cut k (k + 1) (by omega) (by omega)
  have e : k + 1 - k = 1 := by omega
  have hk' : k < bs.length := by rw [h.hlen]; exact hk
  have e2 : (bs.drop k).take 1 = [at8 bs k] := by
    rw [List.take_one, List.head?_drop, List.getElem?_eq_getElem hk']
    simp [at8, List.getD_eq_getElem?_getD, List.getElem?_eq_getElem hk']
  rw [e, e2] at this
  exact this
theorem run_slice_one {P : Program} (T E : TypeId) (hT : P.underlying T = some (.slice E)) (hs : (P.info? E).map (·.size) = some 1) (bp : Option Addr) (len cap k : Nat) (h : k + 1 ≤ cap) (w : World) :
    (Instr.sliceAt T (.slice bp len cap) (some (.int .i64 (k : Int))) (some (.int .i64 ((k : Int) + 1))) none).run P w = .ok (.slice (cutAt bp cap k) 1 (cap - k)) w := by
  have := run_slice_mid (P := P) T E hT hs bp len cap k (k + 1) (by omega) h w
  have e : ((k + 1 : Nat) : Int) = (k : Int) + 1 := by omega
  have e2 : k + 1 - k = 1 := by omega
  rw [e, e2] at this
  exact this
theorem cutAt_block {bp : Option Addr} {cap k : Nat} {a : Addr} (h : cutAt bp cap k = some a) : ∃ a', bp = some a' ∧ a'.block = a.block := by
  unfold cutAt at h
  split at h
  · exact ⟨a, h, rfl⟩
  · obtain ⟨a', rfl, rfl⟩ := Option.map_eq_some_iff.1 h
    exact ⟨a', rfl, by unfold Addr.add; split <;> rfl⟩
/-- 'Write' of bytes that lie in another block. -/
theorem write_apart (g : Nat) (m bs : List UInt8) (bp : Option Addr) (len cap N : Nat) (w : World) (hH : HashAt w g m) (hB : Bytes N w bp len cap bs) (hne : ∀ a, bp = some a → a.block ≠ g) (hlen : m.length + len < 1152921504606846976) :
    Calls Try.prog 12 #[.pointer (some ⟨g, 0, none⟩), .slice bp len cap] w (WritePost g (m ++ bs) w) := by
  obtain ⟨hl, hr, hm, h⟩ := hB
  subst hl
  rcases h with h0 | ⟨b, o, rfl, hb, hc⟩
  · exact write_any g m bs bp (g + 1) 0 cap w hH (by omega) hr hm (fun h => by omega) (fun j hj => by omega) hlen
  · exact write_any g m bs _ b o cap w hH (hne _ rfl) hr hm (fun _ => rfl) hc hlen

theorem byte_inc (x : UInt8) : IntKind.u8.wrap (bz x + 1) = bz (x + 1) := by
  rw [IntKind.wrap_u8', bz_eq, bz_eq, UInt8.toNat_add]
  have : (1 : UInt8).toNat = 1 := rfl
  rw [this]; omega
/-- A row of bytes, whatever they are. -/
def ByteRow (w : World) (g n : Nat) : Prop := ∃ cur : Array Value, w.heap[g]? = some (.cells cur 5 (0, 0)) ∧ ∀ j, j < n → ∃ x : UInt8, cur[j]? = some (.int .u8 (bz x))
theorem ByteRow.of_block {w w' : World} {g n : Nat} (h : ByteRow w g n) (e : w'.heap[g]? = w.heap[g]?) : ByteRow w' g n := by
  obtain ⟨cur, h1, h2⟩ := h
  exact ⟨cur, e.trans h1, h2⟩
theorem ByteRow.of_own {w : World} {base n : Nat} {v : Value} {l : List UInt8} (h : w.ownsRow base 5 1 v n (l.map cu8)) (hn : 0 < n) : ∃ g cap, v = .slice (some ⟨g, 0, none⟩) n cap ∧ base ≤ g ∧ g < w.heap.size ∧ ByteRow w g n := by
  have hl : l.length = n := by have := h.1; simpa using this
  rcases h.2 with ⟨_, h0⟩ | ⟨g, cap, cur, rfl, hb, hg, _⟩
  · omega
  · refine ⟨g, cap, rfl, hb, (Array.getElem?_eq_some_iff.1 hg).1, cur, hg, fun j hj => ?_⟩
    have hj' : j < l.length := by omega
    refine ⟨l[j], ?_⟩
    rw [← cell_of_row w g j _ _ _ hg, h.cellAt j (by omega), List.getElem?_map, List.getElem?_eq_getElem hj']
    rfl
theorem ByteRow.set {w : World} {g n : Nat} (h : ByteRow w g n) (k : Nat) (x : UInt8) : ByteRow (w.setCell ⟨g, k, none⟩ (.int .u8 (bz x))) g n := by
  obtain ⟨cur, h1, h2⟩ := h
  refine ⟨_, heap_setCell_same w g k _ _ _ h1, fun j hj => ?_⟩
  rw [Array.getElem?_setIfInBounds]
  obtain ⟨y, hy⟩ := h2 j hj
  by_cases e : k = j
  · rw [if_pos e, if_pos (e ▸ (Array.getElem?_eq_some_iff.1 hy).1)]; exact ⟨x, rfl⟩
  · rw [if_neg e]; exact ⟨y, hy⟩
/-- What the last statement's calls keep. -/
theorem two_next {w wa wb : World} {gx gs : Nat} {cx cy : List Value} {m : List UInt8} (hb : Below wa.heap.size wa wb) (h1 : wa.rangeAt gx 0 cx) (h2 : wa.rangeAt (gx + 1) 0 cy) (h3 : HashAt wa gs m) (h4 : Below w.heap.size w wa) (h5 : gx + 1 < wa.heap.size) :
    wb.rangeAt gx 0 cx ∧ wb.rangeAt (gx + 1) 0 cy ∧ HashAt wb gs m ∧ Below w.heap.size w wb ∧ gx + 1 < wb.heap.size :=
  ⟨rangeAt_block h1 (hb.block _ (by omega)), rangeAt_block h2 (hb.block _ h5), h3.of_block (hb.block _ h3.lt), h4.trans (hb.mono h4.size), Nat.lt_of_lt_of_le h5 hb.size⟩
theorem run_eql_zero (xs : Array Value) (hx : Hid (xs = ((List.replicate 32 (0 : UInt8)).map cu8).toArray)) (w : World) : (binOp .eql 24 (.agg xs) (.agg #[.int .u8 0, .int .u8 0, .int .u8 0, .int .u8 0, .int .u8 0, .int .u8 0, .int .u8 0, .int .u8 0, .int .u8 0, .int .u8 0, .int .u8 0, .int .u8 0, .int .u8 0, .int .u8 0, .int .u8 0, .int .u8 0, .int .u8 0, .int .u8 0, .int .u8 0, .int .u8 0, .int .u8 0, .int .u8 0, .int .u8 0, .int .u8 0, .int .u8 0, .int .u8 0, .int .u8 0, .int .u8 0, .int .u8 0, .int .u8 0, .int .u8 0, .int .u8 0])).run Try.prog w = .ok (.bool true) w :=
  run_eql_same (P := Try.prog) 24 5 32 Try.underlying24 Try.underlying5 (by kernel_rfl) xs _ (List.replicate 32 0) rfl hx.out (by kernel_rfl) w
theorem range_all {w : World} {g : Nat} {xs : Array Value} {t : TypeId} (h : w.heap[g]? = some (.cells xs t (0, 0))) : w.rangeAt g 0 xs.toList := fun j v hv => by
  rw [Nat.zero_add, cell_of_row w g j _ _ _ h, ← hv, Array.getElem?_toList]
theorem load_arr {w : World} {g : Nat} {xs : Array Value} (h : w.rangeAt g 0 xs.toList) (hs : Hid (xs.size = 32)) : (Instr.loadAt 24 (.pointer (some ⟨g, 0, none⟩))).run Try.prog w = .ok (.agg xs) w := by
  have := run_loadAt_mid w g 0 24 xs.toList _ h Try.underlying24 rfl (by rw [Array.length_toList, hs.out]; kernel_rfl)
  simpa using this
theorem wpAnyH_one {P : Program} {md : Region.Mode} {ops : Array Oper} {Q : Exit → Act → World → Prop} {S : World → Prop} {fuel : Nat} {listed : Array Bool} {a : Act} {w : World} (i : Nat) (o : Oper) (hi : ops[i]? = some o) (hr : Region.ready md ops listed = [i])
    (hw : Region.wanted o (yielded ops a.tmps) = true) (h : ∀ K : Act → World → Prop, (∀ a' w', S w' → wpAnyH P md ops Q S fuel (listed.setIfInBounds i true) a' w' → K a' w') → Oper.wp P o a w K Q) : wpAnyH P md ops Q S (fuel + 1) listed a w := by
  refine wpAnyH_all hr (by simp) (fun j hj => ?_)
  obtain rfl : j = i := by simpa using hj
  unfold wpOp
  simp only [hi, hw, if_true]
  exact .inl (h _ fun _ _ h1 h2 => ⟨h1, h2⟩)
/-- Two arrays made one behind the other. -/
theorem two_new (w : World) (a b : Array Value) (t : TypeId) : ((w.alloc (.cells a t)).alloc (.cells b t)).heap[w.heap.size]? = some (.cells a t (0, 0)) ∧ ((w.alloc (.cells a t)).alloc (.cells b t)).heap[w.heap.size + 1]? = some (.cells b t (0, 0)) := by
  refine ⟨(Below.heap_alloc _ _ _ (by simp)).trans (heap_alloc_new w _), ?_⟩
  have := heap_alloc_new (w.alloc (.cells a t)) (.cells b t)
  simpa using this
theorem two_set (w : World) (a b x y : Array Value) (t : TypeId) :
    ((((w.alloc (.cells a t)).alloc (.cells b t)).setRow w.heap.size x).setRow (w.heap.size + 1) y).heap[w.heap.size]? = some (.cells x t (0, 0)) ∧
    ((((w.alloc (.cells a t)).alloc (.cells b t)).setRow w.heap.size x).setRow (w.heap.size + 1) y).heap[w.heap.size + 1]? = some (.cells y t (0, 0)) ∧
    Below w.heap.size w ((((w.alloc (.cells a t)).alloc (.cells b t)).setRow w.heap.size x).setRow (w.heap.size + 1) y) := by
  obtain ⟨h1, h2⟩ := two_new w a b t
  refine ⟨?_, ?_, below_setRow (below_setRow (((Below.refl _ _).alloc (Nat.le_refl _) _).alloc (by simp) _) (Nat.le_refl _) _) (by omega) _⟩
  · rw [setRow_other _ _ _ _ (by omega)]; exact setRow_heap _ _ _ _ _ _ h1
  · exact setRow_heap _ _ _ _ _ _ ((setRow_other _ _ _ _ (by omega)).trans h2)
/-- Two hashes, written to by turns; the bytes of the one in a row of the call's own. -/
structure TwI (w : World) (gs gt base : Nat) (v : Value) (al : Nat) (ms bs : List UInt8) (i j : Nat) (wr : World) : Prop where
  below : Below w.heap.size w wr
  hs : HashAt wr gs (ms.take i)
  ht : HashAt wr gt (bs.take j)
  own : wr.ownsRow base 5 1 v al (ms.map cu8)
  ord : w.heap.size ≤ gs ∧ gs < gt ∧ gt < base
section
variable {w wr w' : World} {gs gt base al i j : Nat} {v : Value} {ms bs : List UInt8}
theorem TwI.stepS (h : TwI w gs gt base v al ms bs i j wr) (hi : i < ms.length) (hp : WritePost gs (ms.take i ++ [at8 ms i]) wr (.returned (.tuple #[])) w') : TwI w gs gt base v al ms bs (i + 1) j w' := by
  obtain ⟨_, hH, hg⟩ := hp
  obtain ⟨o1, o2, o3⟩ := h.ord
  refine ⟨below_of_grown h.below hg h.below.size o1, by rw [take_one ms i hi]; exact hH, h.ht.of_block (hg.block gt h.ht.lt (by simp; omega)), h.own.kept hg ?_, h.ord⟩
  cases hv : v.ownBlock with
  | none => exact .inl rfl
  | some k => right; have := (h.own.lt k hv).1; simp; omega
theorem TwI.stepT (h : TwI w gs gt base v al ms bs i j wr) (hj : j < bs.length) (hp : WritePost gt (bs.take j ++ [at8 bs j]) wr (.returned (.tuple #[])) w') : TwI w gs gt base v al ms bs i (j + 1) w' := by
  obtain ⟨_, hH, hg⟩ := hp
  obtain ⟨o1, o2, o3⟩ := h.ord
  refine ⟨below_of_grown h.below hg h.below.size (by omega), h.hs.of_block (hg.block gs h.hs.lt (by simp; omega)), by rw [take_one bs j hj]; exact hH, h.own.kept hg ?_, h.ord⟩
  cases hv : v.ownBlock with
  | none => exact .inl rfl
  | some k => right; have := (h.own.lt k hv).1; simp; omega
theorem TwI.skipS (h : TwI w gs gt base v al ms bs i j wr) (hi : ms.length ≤ i) : TwI w gs gt base v al ms bs (i + 1) j wr :=
  ⟨h.below, by have := h.hs; rw [List.take_of_length_le hi] at this; rw [List.take_of_length_le (by omega)]; exact this, h.ht, h.own, h.ord⟩
theorem TwI.skipT (h : TwI w gs gt base v al ms bs i j wr) (hj : bs.length ≤ j) : TwI w gs gt base v al ms bs i (j + 1) wr :=
  ⟨h.below, h.hs, by have := h.ht; rw [List.take_of_length_le hj] at this; rw [List.take_of_length_le (by omega)]; exact this, h.own, h.ord⟩
end

set_option maxRecDepth 100000 in
set_option maxHeartbeats 1600000 in
theorem shaTwo_any (ap : Option Addr) (al ac : Nat) (ms : List UInt8) (bp : Option Addr) (bl bc : Nat) (bs : List UInt8) (w : World) (hA : Bytes w.heap.size w ap al ac ms) (hB : Bytes w.heap.size w bp bl bc bs) (ha : al ≤ 140737488351232) (hb : bl ≤ 140737488351232) :
    Calls Try.prog 6 #[.slice ap al ac, .slice bp bl bc] w (TruePost w) := by
  have hsum : ((al : Int) + (bl : Int)) ≤ 281474976702464 := by omega
  by_cases hbig : 4000 < al + bl
  · have hbig' : 4000 < (al : Int) + (bl : Int) := by omega
    go_enter Try.func6, Try.ntmps6
    go_wp2_with (first
      | (go_at_call 8; refine (stands_any _).mono ?_; rintro e w1 ⟨rfl, hb1⟩))
    go_ret
    exact ⟨rfl, hb1⟩
  have hbig' : ¬ (4000 < (al : Int) + (bl : Int)) := by omega
  obtain ⟨M, hM1, hM2, hM3, hM4, hor⟩ : ∃ M : Nat, al ≤ M ∧ bl ≤ M ∧ M ≤ 4000 ∧ (M ≤ al ∨ M ≤ bl) ∧ (((al : Int) < (bl : Int) ∧ Hid ((bl : Int) = (M : Int))) ∨ (¬ (al : Int) < (bl : Int) ∧ Hid ((al : Int) = (M : Int)))) := by
    by_cases h : (al : Int) < (bl : Int)
    · exact ⟨bl, by omega, by omega, by omega, by omega, .inl ⟨h, rfl⟩⟩
    · exact ⟨al, by omega, by omega, by omega, by omega, .inr ⟨h, rfl⟩⟩
  obtain ⟨i0, hi, hz0, hz1, hz2⟩ := info_parts Try.infoByte
  have HI := Lib.hid (And.intro hi (And.intro hz0 (And.intro hz1 hz2)))
  clear hi hz0 hz1 hz2
  rcases hor with ⟨hc, HMM⟩ | ⟨hc, HMM⟩
  all_goals
    go_enter Try.func6, Try.ntmps6
    go_wp2_with (first
      | (go_at_call 8; refine (stands_any _).mono ?_; rintro e w1 ⟨rfl, hb1⟩)
      | (go_at_call 11; refine (new_any w1).mono ?_; rintro e w2 ⟨gs, rfl, hgs, hHs, hb2⟩; have hB2 : Below w.heap.size w w2 := hb1.trans (hb2.mono hb1.size); have hgs' : w.heap.size ≤ gs := Nat.le_trans hb1.size hgs)
      | (go_at_call 11; refine (new_any w2).mono ?_; rintro e w3 ⟨gt, rfl, hgt, hHt, hb3⟩; have hB3 : Below w.heap.size w w3 := hB2.trans (hb3.mono hB2.size); have hHs3 : HashAt w3 gs [] := hHs.of_block (hb3.block gs hHs.lt))
      | (refine wpList_append_bytes w3 rfl (.const (.slice none 0 0)) _ 22 rfl w3.heap.size 5 i0 (.int .u8 0) 1 Try.underlying22 HI.out.1 HI.out.2.1 HI.out.2.2.1 HI.out.2.2.2 rfl (.slice none 0 0) 0 [] rfl (World.ownsRow_nil _ _ _ _) w.heap.size ap al ac ms rfl (hA.below hB3) (by unfold maxLen; omega) (by omega) (Nat.le_refl _) ?_
         intro v4 w4 hown4 hgr4 hat4
         rw [Nat.zero_add, List.nil_append] at hown4
         clear hat4
         have hI : TwI w gs gt w3.heap.size v4 al ms bs 0 0 w4 := ⟨hB3.grown hgr4 hB3.size (fun j hj => by simp [Value.ownBlock] at hj), hHs3.of_block (hgr4.block gs hHs3.lt (by simp [Value.ownBlock])), hHt.of_block (hgr4.block gt hHt.lt (by simp [Value.ownBlock])), hown4, hgs', Nat.lt_of_lt_of_le hHs.lt hgt, hHt.lt⟩
         obtain ⟨op, oc, rfl, hO⟩ := Bytes.of_own hown4
         clear hown4 hgr4 hHs3 hHs hHt hB3 hB2 hb3 hb2 hgs))
    rw [HMM.out]
    clear hsum hbig' hc
    have hal : ms.length = al := hA.hlen
    have hbl : bs.length = bl := hB.hlen
    go_loopg [30] M (fun q i wr => ∃ k : Nat, k ≤ M ∧ q = M - k ∧ i = .int .i64 k ∧ TwI w gs gt w3.heap.size (.slice op al oc) al ms bs k k wr)
    case atStart => exact ⟨0, by omega, rfl, rfl, hI⟩
    case round =>
      clear hI
      obtain ⟨k, hk, rfl, rfl, hI⟩ := hrel
      by_cases hlt : k < M
      · have hlt' : (k : Int) < (M : Int) := by omega
        obtain ⟨pv, cv, hpv, hO⟩ := Bytes.of_own hI.own
        cases hpv
        have hA' := hA.below hI.below
        have hB' := hB.below hI.below
        have hne : ∀ a, cutAt op oc k = some a → a.block ≠ gs := fun a h => by
          obtain ⟨a', h1, h2⟩ := cutAt_block h
          have := (hI.own.lt a'.block (by rw [h1]; rfl)).1
          have := hI.ord
          omega
        by_cases hka : k < al
        · have hka' : (k : Int) < (al : Int) := by omega
          have s1 := run_slice_one (P := Try.prog) 22 5 Try.underlying22 (by kernel_rfl) op al oc k (by have := hO.hroom; omega)
          have o1 := hO.cut_one k hka
          generalize cutAt op oc k = p1 at s1 o1 hne
          generalize oc - k = c1 at s1 o1
          by_cases hkb : k < bl
          · have hkb' : (k : Int) < (bl : Int) := by omega
            have s2 := run_slice_one (P := Try.prog) 22 5 Try.underlying22 (by kernel_rfl) bp bl bc k (by have := hB.hroom; omega)
            have o2 := hB.cut_one k hkb
            generalize cutAt bp bc k = p2 at s2 o2
            generalize bc - k = c2 at s2 o2
            go_wp2_with (first
              | (go_at_call 12; refine (write_apart gs (ms.take k) [at8 ms k] p1 1 c1 wr.heap.size wr hI.hs o1 hne (by rw [List.length_take]; omega)).mono ?_; rintro e w5 hp5; obtain rfl := hp5.1; have hI5 := hI.stepS (by omega) hp5; clear hI)
              | (go_at_call 12; refine (write_bytes gt (bs.take k) [at8 bs k] p2 1 c2 w.heap.size w5 hI5.ht (o2.below hI5.below) (by have := hI5.ord; omega) (by rw [List.length_take]; omega)).mono ?_; rintro e w6 hp6; obtain rfl := hp6.1; have hI6 := hI5.stepT (by omega) hp6; clear hI5))
            go_roundg (M - (k + 1))
            case measure => omega
            case rel => exact ⟨k + 1, by omega, rfl, by go_num, hI6⟩
          · have hkb' : ¬ ((k : Int) < (bl : Int)) := by omega
            go_wp2_with (first
              | (go_at_call 12; refine (write_apart gs (ms.take k) [at8 ms k] p1 1 c1 wr.heap.size wr hI.hs o1 hne (by rw [List.length_take]; omega)).mono ?_; rintro e w5 hp5; obtain rfl := hp5.1; have hI5 := hI.stepS (by omega) hp5; clear hI))
            go_roundg (M - (k + 1))
            case measure => omega
            case rel => exact ⟨k + 1, by omega, rfl, by go_num, hI5.skipT (by omega)⟩
        · have hka' : ¬ ((k : Int) < (al : Int)) := by omega
          by_cases hkb : k < bl
          · have hkb' : (k : Int) < (bl : Int) := by omega
            have s2 := run_slice_one (P := Try.prog) 22 5 Try.underlying22 (by kernel_rfl) bp bl bc k (by have := hB.hroom; omega)
            have o2 := hB.cut_one k hkb
            generalize cutAt bp bc k = p2 at s2 o2
            generalize bc - k = c2 at s2 o2
            go_wp2_with (first
              | (go_at_call 12; refine (write_bytes gt (bs.take k) [at8 bs k] p2 1 c2 w.heap.size wr hI.ht (o2.below hI.below) (by have := hI.ord; omega) (by rw [List.length_take]; omega)).mono ?_; rintro e w6 hp6; obtain rfl := hp6.1; have hI6 := hI.stepT (by omega) hp6; clear hI))
            go_roundg (M - (k + 1))
            case measure => omega
            case rel => exact ⟨k + 1, by omega, rfl, by go_num, hI6.skipS (by omega)⟩
          · omega
      · obtain rfl : k = M := by omega
        have hge : ¬ ((k : Int) < (k : Int)) := by omega
        rename World => w5
        obtain ⟨o1, o2, o3⟩ := hI.ord
        have hbw := hI.below
        have hS := hI.hs
        have hT := hI.ht
        have hOwn := hI.own
        rw [List.take_of_length_le (by omega)] at hS hT
        have HS := Lib.hid hS
        clear hI hlt hk
        go_wp2_with (first
          | (go_at_call 13; refine (sum_any gs ms w5 hS (by omega)).mono ?_; rintro e w6 ⟨rx, Hrx, rfl, hb6⟩; have hT6 : HashAt w6 gt bs := hT.of_block (hb6.block gt hT.lt); clear hS)
          | (go_at_call 13; refine (sum_any gt bs w6 hT6 (by omega)).mono ?_; rintro e w7 ⟨ry, Hry, rfl, hb7⟩; clear hT6
             have hb57 : Below w5.heap.size w5 w7 := hb6.trans (hb7.mono hb6.size))
          | (refine wpList_store_row rfl 24 _ _ rfl w7.heap.size rx rfl rfl 24 _ (two_new w7 _ _ _).1 (by rw [(dig_size Hrx).out]; kernel_rfl) (by rw [(dig_size Hrx).out]; kernel_rfl) (dig_one Hrx).out ?_)
          | (refine wpList_store_row rfl 24 _ _ rfl (w7.heap.size + 1) ry rfl rfl 24 _ ((setRow_other _ _ _ _ (by omega)).trans (two_new w7 _ _ _).2) (by rw [(dig_size Hry).out]; kernel_rfl) (by rw [(dig_size Hry).out]; kernel_rfl) (dig_one Hry).out ?_
             generalize hw8 : World.setRow (World.setRow _ _ _) _ _ = w8
             obtain ⟨hX, hY, hb8⟩ : w8.heap[w7.heap.size]? = some (.cells rx 24 (0, 0)) ∧ w8.heap[w7.heap.size + 1]? = some (.cells ry 24 (0, 0)) ∧ Below w7.heap.size w7 w8 := by rw [← hw8]; exact two_set w7 _ _ rx ry 24
             clear hw8))
        have hs78 : w7.heap.size + 1 < w8.heap.size := (Array.getElem?_eq_some_iff.1 hY).1
        have hs57 := hb57.size
        have hb58 : Below w5.heap.size w5 w8 := hb57.trans (hb8.mono hs57)
        have hsl := HS.out.lt
        have hbw8 : Below w.heap.size w w8 := hbw.trans (hb58.mono hbw.size)
        obtain ⟨g0, hg0a, hg0b, hg0c, hrow⟩ : ∃ g0, w3.heap.size ≤ g0 ∧ g0 ≠ w7.heap.size ∧ g0 ≠ w7.heap.size + 1 ∧ (al = 0 ∨ (op = some ⟨g0, 0, none⟩ ∧ ByteRow w8 g0 al)) := by
          rcases Nat.eq_zero_or_pos al with h | h
          · exact ⟨w3.heap.size + w8.heap.size, by omega, by omega, by omega, .inl h⟩
          · obtain ⟨g, cap, hv, h1, h2, h3⟩ := ByteRow.of_own hOwn h
            cases hv
            exact ⟨g, h1, by omega, by omega, .inr ⟨rfl, h3.of_block (hb58.block g h2)⟩⟩
        have hrow8 : al = 0 ∨ ByteRow w8 g0 al := hrow.imp id (·.2)
        have hopn : al = 0 ∨ op = some ⟨g0, 0, none⟩ := hrow.imp id (·.1)
        have HS8 : Hid (HashAt w8 gs ms) := Lib.hid (HS.out.of_block (hb58.block gs hsl))
        clear hrow hOwn hT hb6 hb7
        go_loopg [62] al (fun g i wr => ∃ q : Nat, q ≤ al ∧ g = al - q ∧ i = .int .i64 q ∧ w8.grownBy wr (some g0) ∧ (al = 0 ∨ ByteRow wr g0 al))
        case atStart => exact ⟨0, by omega, rfl, rfl, grownBy_refl _ _, hrow8⟩
        case round =>
          clear hrow8
          obtain ⟨q, hq, rfl, rfl, hgr, hR⟩ := hrel
          by_cases hlt : q < al
          · have hlt' : (q : Int) < (al : Int) := by omega
            obtain rfl : op = some ⟨g0, 0, none⟩ := by rcases hopn with h | h; omega; exact h
            have hR' : ByteRow wr g0 al := by rcases hR with h | h; omega; exact h
            obtain ⟨cur, hcur, hx⟩ := hR'
            obtain ⟨x, hx⟩ := hx q hlt
            have c0 : wr.cell? ⟨g0, q, none⟩ = some (.int .u8 (bz x)) := by rw [cell_of_row wr g0 q _ _ _ hcur]; exact hx
            have f0 : wr.frozen? ⟨g0, q, none⟩ = false := frozen_of_row wr g0 q _ _ hcur
            have hv := byte_inc x
            clear hx hcur
            go_wp2_with fail
            go_roundg (al - (q + 1))
            case measure => omega
            case rel =>
              exact ⟨q + 1, by omega, rfl, by go_num, grownBy_trans hgr ⟨rfl, rfl, rfl, by simp [World.setCell], fun j _ hj => heap_setCell_other _ _ _ _ (fun e => hj (by rw [e]))⟩, hR.imp id fun h => h.set q (x + 1)⟩
          · obtain rfl : q = al := by omega
            have hge2 : ¬ ((q : Int) < (q : Int)) := by omega
            rename World => w9
            go_wp2_with (first | (go_at_call 12; refine (write_nil ap _ ac w9).mono ?_; rintro e w' ⟨rfl, rfl⟩))
            have hX9 : w9.heap[w7.heap.size]? = some (.cells rx 24 (0, 0)) := (hgr.block _ (by omega) (by simp; omega)).trans hX
            have hY9 : w9.heap[w7.heap.size + 1]? = some (.cells ry 24 (0, 0)) := (hgr.block _ (by omega) (by simp; omega)).trans hY
            have hS9 : HashAt w9 gs ms := HS8.out.of_block (hgr.block _ HS8.out.lt (by simp; omega))
            have hb9 : Below w.heap.size w w9 := below_of_grown hbw8 hgr hbw8.size (by omega)
            have r1 := range_all hX9
            have r2 := range_all hY9
            have hs9 : w7.heap.size + 1 < w9.heap.size := Nat.lt_of_lt_of_le hs78 hgr.size
            clear hX hY hX9 hY9 hgr hR hopn hb58 hb57 hb8 hbw8 hbw HS HS8 hge hge2 hlt hq
            generalize w7.heap.size = gx at r1 r2 hs9 ⊢
            refine wp_region_held (S := (fun w' => w'.rangeAt gx 0 rx.toList ∧ w'.rangeAt (gx + 1) 0 ry.toList ∧ HashAt w' gs ms ∧ Below w.heap.size w w' ∧ gx + 1 < w'.heap.size)) (by kernel_rfl) ?_
            change wpAnyH _ _ _ _ _ _ _ _ (World.drew _)
            have hSd : (fun w' => w'.rangeAt gx 0 rx.toList ∧ w'.rangeAt (gx + 1) 0 ry.toList ∧ HashAt w' gs ms ∧ Below w.heap.size w w' ∧ gx + 1 < w'.heap.size) w9.drew := ⟨r1, r2, hS9.of_block rfl, hb9.trans ⟨rfl, rfl, rfl, Nat.le_refl _, fun _ _ => rfl⟩, hs9⟩
            generalize w9.drew = w10 at hSd ⊢
            clear r1 r2 hS9 hb9 hs9
            refine wpAnyH_take (i := 0) (v := .agg rx) rfl (by kernel_rfl) (by kernel_rfl) (by kernel_rfl) (fun _ _ _ h => h) (Or.inl ⟨by rfl, fun w hw => exec_load _ _ 24 _ rfl gx 0 rfl _ (load_arr hw.1 (dig_size Hrx))⟩) hSd ?_
            try simp only [List.getElem_toArray, List.getElem_cons_succ, List.getElem_cons_zero, Act.put, List.setIfInBounds_toArray, List.set]
            refine wpAnyH_take (i := 1) (v := .slice ap q ac) rfl (by kernel_rfl) (by kernel_rfl) (by kernel_rfl) (fun _ _ _ h => h) (Or.inl ⟨by rfl, ?_⟩) hSd ?_
            · intro w _; go_simp
            try simp only [List.getElem_toArray, List.getElem_cons_succ, List.getElem_cons_zero, Act.put, List.setIfInBounds_toArray, List.set]
            refine wpAnyH_one 2 _ rfl (by kernel_rfl) (by rfl) (fun K hK => ?_)
            go_simp
            refine (rsum_any ap q ac ms w10 ((hA.below hSd.2.2.2.1).mono hSd.2.2.2.1.size) (by omega)).mono ?_
            rintro e w11 ⟨rvA, HrvA, rfl, hbA⟩
            have hSA := two_next hbA hSd.1 hSd.2.1 hSd.2.2.1 hSd.2.2.2.1 hSd.2.2.2.2
            have heqA := run_eql_dig ms rx rvA Hrx HrvA
            refine hK _ _ hSA ?_
            clear hK K
            try simp only [List.getElem_toArray, List.getElem_cons_succ, List.getElem_cons_zero, Act.put, List.setIfInBounds_toArray, List.set]
            refine wpAnyH_take (i := 3) (v := .bool true) rfl (by kernel_rfl) (by kernel_rfl) (by kernel_rfl) (fun _ _ _ h => h) (Or.inl ⟨by rfl, ?_⟩) hSA ?_
            · intro w _; go_simp
            try simp only [List.getElem_toArray, List.getElem_cons_succ, List.getElem_cons_zero, Act.put, List.setIfInBounds_toArray, List.set]
            refine wpAnyH_take (i := 4) (v := .bool true) rfl (by kernel_rfl) (by kernel_rfl) (by kernel_rfl) (fun _ _ _ h => h) (Or.inl ⟨by rfl, ?_⟩) hSA ?_
            · intro w _; go_simp
            try simp only [List.getElem_toArray, List.getElem_cons_succ, List.getElem_cons_zero, Act.put, List.setIfInBounds_toArray, List.set]
            refine wpAnyH_take (i := 5) (v := .agg ry) rfl (by kernel_rfl) (by kernel_rfl) (by kernel_rfl) (fun _ _ _ h => h) (Or.inl ⟨by rfl, fun w hw => exec_load _ _ 24 _ rfl (gx + 1) 0 rfl _ (load_arr hw.2.1 (dig_size Hry))⟩) hSA ?_
            try simp only [List.getElem_toArray, List.getElem_cons_succ, List.getElem_cons_zero, Act.put, List.setIfInBounds_toArray, List.set]
            refine wpAnyH_take (i := 6) (v := .slice bp bl bc) rfl (by kernel_rfl) (by kernel_rfl) (by kernel_rfl) (fun _ _ _ h => h) (Or.inl ⟨by rfl, ?_⟩) hSA ?_
            · intro w _; go_simp
            try simp only [List.getElem_toArray, List.getElem_cons_succ, List.getElem_cons_zero, Act.put, List.setIfInBounds_toArray, List.set]
            refine wpAnyH_one 7 _ rfl (by kernel_rfl) (by rfl) (fun K hK => ?_)
            go_simp
            refine (rsum_any bp bl bc bs w11 ((hB.below hSA.2.2.2.1).mono hSA.2.2.2.1.size) (by omega)).mono ?_
            rintro e w12 ⟨rvB, HrvB, rfl, hbB⟩
            have hSB := two_next hbB hSA.1 hSA.2.1 hSA.2.2.1 hSA.2.2.2.1 hSA.2.2.2.2
            have heqB := run_eql_dig bs ry rvB Hry HrvB
            refine hK _ _ hSB ?_
            clear hK K
            try simp only [List.getElem_toArray, List.getElem_cons_succ, List.getElem_cons_zero, Act.put, List.setIfInBounds_toArray, List.set]
            refine wpAnyH_take (i := 8) (v := .bool true) rfl (by kernel_rfl) (by kernel_rfl) (by kernel_rfl) (fun _ _ _ h => h) (Or.inl ⟨by rfl, ?_⟩) hSB ?_
            · intro w _; go_simp
            try simp only [List.getElem_toArray, List.getElem_cons_succ, List.getElem_cons_zero, Act.put, List.setIfInBounds_toArray, List.set]
            refine wpAnyH_take (i := 9) (v := .bool true) rfl (by kernel_rfl) (by kernel_rfl) (by kernel_rfl) (fun _ _ _ h => h) (Or.inl ⟨by rfl, ?_⟩) hSB ?_
            · intro w _; go_simp
            try simp only [List.getElem_toArray, List.getElem_cons_succ, List.getElem_cons_zero, Act.put, List.setIfInBounds_toArray, List.set]
            refine wpAnyH_take (i := 10) (v := .bool true) rfl (by kernel_rfl) (by kernel_rfl) (by kernel_rfl) (fun _ _ _ h => h) (Or.inl ⟨by rfl, ?_⟩) hSB ?_
            · intro w _; go_simp
            try simp only [List.getElem_toArray, List.getElem_cons_succ, List.getElem_cons_zero, Act.put, List.setIfInBounds_toArray, List.set]
            refine wpAnyH_take (i := 11) (v := .pointer (some ⟨gs, 0, none⟩)) rfl (by kernel_rfl) (by kernel_rfl) (by kernel_rfl) (fun _ _ _ h => h) (Or.inl ⟨by rfl, ?_⟩) hSB ?_
            · intro w _; go_simp
            try simp only [List.getElem_toArray, List.getElem_cons_succ, List.getElem_cons_zero, Act.put, List.setIfInBounds_toArray, List.set]
            refine wpAnyH_take (i := 13) (v := .agg rx) rfl (by kernel_rfl) (by kernel_rfl) (by kernel_rfl) (fun _ _ _ h => h) (Or.inl ⟨by rfl, fun w hw => exec_load _ _ 24 _ rfl gx 0 rfl _ (load_arr hw.1 (dig_size Hrx))⟩) hSB ?_
            try simp only [List.getElem_toArray, List.getElem_cons_succ, List.getElem_cons_zero, Act.put, List.setIfInBounds_toArray, List.set]
            refine wpAnyH_one 12 _ rfl (by kernel_rfl) (by rfl) (fun K hK => ?_)
            go_simp
            refine (sum_any gs ms w12 hSB.2.2.1 (by omega)).mono ?_
            rintro e w13 ⟨rvC, HrvC, rfl, hbC⟩
            have hSC := two_next hbC hSB.1 hSB.2.1 hSB.2.2.1 hSB.2.2.2.1 hSB.2.2.2.2
            have heqC := run_eql_dig ms rvC rx HrvC Hrx
            refine hK _ _ hSC ?_
            clear hK K
            try simp only [List.getElem_toArray, List.getElem_cons_succ, List.getElem_cons_zero, Act.put, List.setIfInBounds_toArray, List.set]
            refine wpAnyH_take (i := 14) (v := .bool true) rfl (by kernel_rfl) (by kernel_rfl) (by kernel_rfl) (fun _ _ _ h => h) (Or.inl ⟨by rfl, ?_⟩) hSC ?_
            · intro w _; go_simp
            try simp only [List.getElem_toArray, List.getElem_cons_succ, List.getElem_cons_zero, Act.put, List.setIfInBounds_toArray, List.set]
            refine wpAnyH_take (i := 15) (v := .bool true) rfl (by kernel_rfl) (by kernel_rfl) (by kernel_rfl) (fun _ _ _ h => h) (Or.inl ⟨by rfl, ?_⟩) hSC ?_
            · intro w _; go_simp
            try simp only [List.getElem_toArray, List.getElem_cons_succ, List.getElem_cons_zero, Act.put, List.setIfInBounds_toArray, List.set]
            refine wpAnyH_take (i := 16) (v := .bool true) rfl (by kernel_rfl) (by kernel_rfl) (by kernel_rfl) (fun _ _ _ h => h) (Or.inl ⟨by rfl, ?_⟩) hSC ?_
            · intro w _; go_simp
            try simp only [List.getElem_toArray, List.getElem_cons_succ, List.getElem_cons_zero, Act.put, List.setIfInBounds_toArray, List.set]
            refine wpAnyH_take (i := 17) (v := .pointer none) rfl (by kernel_rfl) (by kernel_rfl) (by kernel_rfl) (fun _ _ _ h => h) (Or.inl ⟨by rfl, ?_⟩) hSC ?_
            · intro w _; go_simp
            try simp only [List.getElem_toArray, List.getElem_cons_succ, List.getElem_cons_zero, Act.put, List.setIfInBounds_toArray, List.set]
            refine wpAnyH_take (i := 19) (v := .agg #[.int .u8 0, .int .u8 0, .int .u8 0, .int .u8 0, .int .u8 0, .int .u8 0, .int .u8 0, .int .u8 0, .int .u8 0, .int .u8 0, .int .u8 0, .int .u8 0, .int .u8 0, .int .u8 0, .int .u8 0, .int .u8 0, .int .u8 0, .int .u8 0, .int .u8 0, .int .u8 0, .int .u8 0, .int .u8 0, .int .u8 0, .int .u8 0, .int .u8 0, .int .u8 0, .int .u8 0, .int .u8 0, .int .u8 0, .int .u8 0, .int .u8 0, .int .u8 0]) rfl (by kernel_rfl) (by kernel_rfl) (by kernel_rfl) (fun _ _ _ h => h) (Or.inl ⟨by rfl, ?_⟩) hSC ?_
            · intro w _; go_simp
            try simp only [List.getElem_toArray, List.getElem_cons_succ, List.getElem_cons_zero, Act.put, List.setIfInBounds_toArray, List.set]
            refine wpAnyH_one 18 _ rfl (by kernel_rfl) (by rfl) (fun K hK => ?_)
            go_simp
            refine (sum_nil w13).mono ?_
            rintro e w14 ⟨rvD, HrvD, rfl, hbD⟩
            have hSD := two_next hbD hSC.1 hSC.2.1 hSC.2.2.1 hSC.2.2.2.1 hSC.2.2.2.2
            have heqD := run_eql_zero rvD HrvD
            refine hK _ _ hSD ?_
            clear hK K
            try simp only [List.getElem_toArray, List.getElem_cons_succ, List.getElem_cons_zero, Act.put, List.setIfInBounds_toArray, List.set]
            refine wpAnyH_take (i := 20) (v := .bool true) rfl (by kernel_rfl) (by kernel_rfl) (by kernel_rfl) (fun _ _ _ h => h) (Or.inl ⟨by rfl, ?_⟩) hSD ?_
            · intro w _; go_simp
            try simp only [List.getElem_toArray, List.getElem_cons_succ, List.getElem_cons_zero, Act.put, List.setIfInBounds_toArray, List.set]
            refine wpAnyH_take (i := 21) (v := .bool true) rfl (by kernel_rfl) (by kernel_rfl) (by kernel_rfl) (fun _ _ _ h => h) (Or.inl ⟨by rfl, ?_⟩) hSD ?_
            · intro w _; go_simp
            try simp only [List.getElem_toArray, List.getElem_cons_succ, List.getElem_cons_zero, Act.put, List.setIfInBounds_toArray, List.set]
            refine wpAnyH_take (i := 22) (v := .bool true) rfl (by kernel_rfl) (by kernel_rfl) (by kernel_rfl) (fun _ _ _ h => h) (Or.inl ⟨by rfl, ?_⟩) hSD ?_
            · intro w _; go_simp
            try simp only [List.getElem_toArray, List.getElem_cons_succ, List.getElem_cons_zero, Act.put, List.setIfInBounds_toArray, List.set]
            refine wpAnyH_done (by kernel_rfl) ?_ _
            go_wp2
            go_ret
            exact ⟨rfl, hSD.2.2.2.1⟩
end Go.Proofs.Ytcnjffckjcoafaa
