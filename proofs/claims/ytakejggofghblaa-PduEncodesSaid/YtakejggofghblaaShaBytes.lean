/-
  Bytes in a slice, wherever it lies; such a slice appended to one that the call owns. No program is named here.
-/
import Derived.Test.YtakejggofghblaaShaRows
import Derived.Deep.AppendLies
import Derived.Deep.Draws
namespace Go.Proofs.Ytakejggofghblaa
open Go.RowKit Sh

/-- The slice (bp, len, cap) holds bs; its block, where it has bytes, lies below N. -/
structure Bytes (N : Nat) (w : World) (bp : Option Addr) (len cap : Nat) (bs : List UInt8) : Prop where
  hlen : bs.length = len
  hroom : len ≤ cap
  hmax : cap ≤ maxLen
  lies : len = 0 ∨ ∃ b o, bp = some ⟨b, o, none⟩ ∧ b < N ∧ ∀ j, j < len → w.cell? ⟨b, o + j, none⟩ = some (cu8 (at8 bs j))

theorem Bytes.below {N : Nat} {w w' : World} {bp : Option Addr} {len cap : Nat} {bs : List UInt8} (h : Bytes N w bp len cap bs) (hb : Below N w w') : Bytes N w' bp len cap bs :=
  ⟨h.hlen, h.hroom, h.hmax, h.lies.imp id fun ⟨b, o, h1, h2, h3⟩ => ⟨b, o, h1, h2, fun j hj => (hb.cell (p := ⟨b, o + j, none⟩) h2).trans (h3 j hj)⟩⟩
theorem Bytes.mono {N M : Nat} {w : World} {bp : Option Addr} {len cap : Nat} {bs : List UInt8} (h : Bytes N w bp len cap bs) (hb : N ≤ M) : Bytes M w bp len cap bs :=
  ⟨h.hlen, h.hroom, h.hmax, h.lies.imp id fun ⟨b, o, h1, h2, h3⟩ => ⟨b, o, h1, Nat.lt_of_lt_of_le h2 hb, h3⟩⟩
theorem Bytes.nil (N : Nat) (w : World) : Bytes N w none 0 0 [] := ⟨rfl, Nat.le_refl _, Nat.zero_le _, .inl rfl⟩
/-- One byte in a block of its own. -/
theorem Bytes.one (w : World) (t : TypeId) (b : UInt8) : Bytes (w.heap.size + 1) (w.alloc (.cells #[.int .u8 (bz b)] t)) (some ⟨w.heap.size, 0, none⟩) 1 1 [b] :=
  ⟨rfl, Nat.le_refl _, by unfold maxLen; omega, .inr ⟨w.heap.size, 0, rfl, Nat.lt_succ_self _, fun j hj => by
    obtain rfl : j = 0 := by omega
    rw [cell_of_row _ w.heap.size _ _ _ _ (heap_alloc_new w _)]; rfl⟩⟩
/-- As one who owns a row has it. -/
theorem Bytes.of_own {w : World} {base : Nat} {e : TypeId} {v : Value} {n : Nat} {bs : List UInt8} (h : w.ownsRow base e 1 v n (bs.map cu8)) :
    ∃ bp cap, v = .slice bp n cap ∧ Bytes w.heap.size w bp n cap bs := by
  have hl : bs.length = n := by have := h.1; simpa using this
  rcases h.2 with ⟨rfl, rfl⟩ | ⟨g, cap, cur, rfl, _, hg, hc, hm, _, _⟩
  · exact ⟨none, 0, rfl, by simpa using hl, Nat.le_refl _, Nat.zero_le _, .inl rfl⟩
  · refine ⟨some ⟨g, 0, none⟩, cap, rfl, hl, hc, hm, .inr ⟨g, 0, rfl, (Array.getElem?_eq_some_iff.1 hg).1, fun j hj => ?_⟩⟩
    rw [Nat.zero_add, h.cellAt j (by simpa using hj), List.getElem?_map]
    have hj' : j < bs.length := by omega
    simp [at8, List.getD_eq_getElem?_getD, List.getElem?_eq_getElem hj']

theorem run_append_bytes {P : Program} (w : World) (t ty : TypeId) (base : Nat) (e : TypeId) (i : TypeInfo) (z : Value) (bytes : Nat) (ht : P.underlying t = some (.slice e)) (hi : P.info? e = some i) (hz : i.zero = some z)
    (hsize : i.size = 1) (hby : i.bytes = bytes) (hzs : z.cells.size = 1) (v : Value) (n : Nat) (xs : List Value) (hown : w.ownsRow base e 1 v n xs) (N : Nat) (bp : Option Addr) (m c : Nat) (bs : List UInt8) (hB : Bytes N w bp m c bs)
    (h63 : n + m ≤ maxLen) (hbytes : (n + m) * bytes ≤ 140737488355328) (hbase : base ≤ w.heap.size) :
    ∃ v' w', (Builtin.append_ #[t, t] ty #[v, .slice bp m c]).run P w = .ok v' w' ∧ w'.ownsRow base e 1 v' (n + m) (xs ++ bs.map cu8) ∧ w.grownBy w' v.ownBlock ∧ (v'.ownBlock = v.ownBlock ∨ v'.ownBlock = some w.heap.size) := by
  rcases hB.lies with h0 | ⟨b, o, rfl, hb, hc⟩
  · subst h0
    have hbs : bs = [] := List.length_eq_zero_iff.1 hB.hlen
    subst hbs
    refine ⟨v, w, ?_, by simpa using hown, ⟨rfl, rfl, rfl, Nat.le_refl _, fun _ _ _ => rfl⟩, .inl rfl⟩
    have hld : ∀ ad : Addr, (loadCells ad 0).run P w = .ok #[] w := fun ad => by simp [loadCells, loadCellsFrom]
    rcases hown.2 with ⟨rfl, rfl⟩ | ⟨g, cap, cur, rfl, _, _, hnc, _⟩
    · cases bp
      · simp [Builtin.append_, run_underlying ht, sizeOf, typeInfo, hi, Builtin.lenOf, Builtin.firstCells]
      · simp [Builtin.append_, run_underlying ht, sizeOf, typeInfo, hi, Builtin.lenOf, Builtin.firstCells, hld, Result.andThen]
    · cases bp
      · simp [Builtin.append_, run_underlying ht, sizeOf, typeInfo, hi, Builtin.lenOf, Builtin.firstCells, hnc, storeCells]
      · simp [Builtin.append_, run_underlying ht, sizeOf, typeInfo, hi, Builtin.lenOf, Builtin.firstCells, hnc, hld, storeCells, Result.andThen]
  · obtain ⟨v', w', h1, h2, h3, _, h5⟩ := run_append_own_at (P := P) w base t ty e i z 1 bytes ht hi hz hsize hby hzs (by omega) v n xs hown ⟨b, o, none⟩ m c (bs.map cu8) (by simp [hB.hlen]) (fun j u hu => by
      have hj : j < bs.length := by
        rcases Nat.lt_or_ge j bs.length with h7 | h7
        · exact h7
        · rw [List.getElem?_eq_none (by simpa using h7)] at hu; cases hu
      have hadd : (⟨b, o, none⟩ : Addr).add j = ⟨b, o + j, none⟩ := by unfold Addr.add; split <;> simp_all
      rw [hadd, hc j (by rw [← hB.hlen]; exact hj), ← hu, List.getElem?_map]
      simp [at8, List.getD_eq_getElem?_getD, List.getElem?_eq_getElem hj]) (fun u hu => by obtain ⟨x, _, rfl⟩ := List.mem_map.1 hu; rfl) h63 hbytes hbase
    exact ⟨v', w', h1, h2, h3, h5⟩

theorem wp_append_bytes {P : Program} (w : World) {o : Oper} {a : Act} {K : Act → World → Prop} {Q : Exit → Act → World → Prop} (s x : Operand) (t : TypeId)
    (ho : o.op = .call { callee := .builtin .append, args := #[s, x], argTypes := #[t, t] })
    (base : Nat) (e : TypeId) (i : TypeInfo) (z : Value) (bytes : Nat) (ht : P.underlying t = some (.slice e)) (hi : P.info? e = some i) (hz : i.zero = some z)
    (hsize : i.size = 1) (hby : i.bytes = bytes) (hzs : z.cells.size = 1) (v : Value) (n : Nat) (xs : List Value) (hs : a.eval s = v) (hown : w.ownsRow base e 1 v n xs) (N : Nat) (bp : Option Addr) (m c : Nat) (bs : List UInt8)
    (hx : a.eval x = .slice bp m c) (hB : Bytes N w bp m c bs) (h63 : n + m ≤ maxLen) (hbytes : (n + m) * bytes ≤ 140737488355328) (hbase : base ≤ w.heap.size)
    (h : ∀ v' w', w'.ownsRow base e 1 v' (n + m) (xs ++ bs.map cu8) → w.grownBy w' v.ownBlock → (v'.ownBlock = v.ownBlock ∨ v'.ownBlock = some w.heap.size) → K (a.put o.dst v') w') : o.wp P a w K Q := by
  obtain ⟨v', w', hr, h2, h3, h4⟩ := run_append_bytes (P := P) w t o.type base e i z bytes ht hi hz hsize hby hzs v n xs hown N bp m c bs hB h63 hbytes hbase
  unfold Oper.wp execOp
  simp only [ho, resolve, invoke, builtin, Sem.run_bind, Sem.run_pure, Result.andThen_ok, List.map_toArray, List.map_cons, List.map_nil, hs, hx, hr]
  exact h v' w' h2 h3 h4

theorem wpList_append_bytes {P : Program} (w : World) {ops : Array Oper} {rest : List Oper} {o : Oper} {a : Act} {Q : Exit → Act → World → Prop} (hgd : o.guard = none) (s x : Operand) (t : TypeId)
    (ho : o.op = .call { callee := .builtin .append, args := #[s, x], argTypes := #[t, t] })
    (base : Nat) (e : TypeId) (i : TypeInfo) (z : Value) (bytes : Nat) (ht : P.underlying t = some (.slice e)) (hi : P.info? e = some i) (hz : i.zero = some z)
    (hsize : i.size = 1) (hby : i.bytes = bytes) (hzs : z.cells.size = 1) (v : Value) (n : Nat) (xs : List Value) (hs : a.eval s = v) (hown : w.ownsRow base e 1 v n xs) (N : Nat) (bp : Option Addr) (m c : Nat) (bs : List UInt8)
    (hx : a.eval x = .slice bp m c) (hB : Bytes N w bp m c bs) (h63 : n + m ≤ maxLen) (hbytes : (n + m) * bytes ≤ 140737488355328) (hbase : base ≤ w.heap.size)
    (h : ∀ v' w', w'.ownsRow base e 1 v' (n + m) (xs ++ bs.map cu8) → w.grownBy w' v.ownBlock → (v'.ownBlock = v.ownBlock ∨ v'.ownBlock = some w.heap.size) → wpList P ops Q rest (a.put o.dst v') w') : wpList P ops Q (o :: rest) a w :=
  wpList_plain hgd fun _ hK => wp_append_bytes w s x t ho base e i z bytes ht hi hz hsize hby hzs v n xs hs hown N bp m c bs hx hB h63 hbytes hbase fun v' w' h1 h2 h3 => hK _ _ (h v' w' h1 h2 h3)

theorem step_append_bytes {P : Program} (w : World) {ops : Array Oper} {o : Oper} {a : Act} {K : Act → World → Prop} {Q : Exit → Act → World → Prop} {E : Prop} (hgd : o.guard = none) (s x : Operand) (t : TypeId)
    (ho : o.op = .call { callee := .builtin .append, args := #[s, x], argTypes := #[t, t] })
    (base : Nat) (e : TypeId) (i : TypeInfo) (z : Value) (bytes : Nat) (ht : P.underlying t = some (.slice e)) (hi : P.info? e = some i) (hz : i.zero = some z)
    (hsize : i.size = 1) (hby : i.bytes = bytes) (hzs : z.cells.size = 1) (v : Value) (n : Nat) (xs : List Value) (hs : a.eval s = v) (hown : w.ownsRow base e 1 v n xs) (N : Nat) (bp : Option Addr) (m c : Nat) (bs : List UInt8)
    (hx : a.eval x = .slice bp m c) (hB : Bytes N w bp m c bs) (h63 : n + m ≤ maxLen) (hbytes : (n + m) * bytes ≤ 140737488355328) (hbase : base ≤ w.heap.size)
    (h : ∀ v' w', w'.ownsRow base e 1 v' (n + m) (xs ++ bs.map cu8) → w.grownBy w' v.ownBlock → (v'.ownBlock = v.ownBlock ∨ v'.ownBlock = some w.heap.size) → K (a.put o.dst v') w') :
    if Region.wanted o (yielded ops a.tmps) = true then Oper.wp P o a w K Q else E := by
  have hw : Region.wanted o (yielded ops a.tmps) = true := by simp [Region.wanted, hgd]
  rw [if_pos hw]
  exact wp_append_bytes w s x t ho base e i z bytes ht hi hz hsize hby hzs v n xs hs hown N bp m c bs hx hB h63 hbytes hbase h

/-- Where 'b[lo:..]' begins. -/
def cutAt (bp : Option Addr) (cap lo : Nat) : Option Addr := if cap = lo then bp else bp.map (·.add lo)
theorem Bytes.cut {N : Nat} {w : World} {bp : Option Addr} {len cap : Nat} {bs : List UInt8} (h : Bytes N w bp len cap bs) (lo hi : Nat) (h1 : lo ≤ hi) (h2 : hi ≤ len) :
    Bytes N w (cutAt bp cap lo) (hi - lo) (cap - lo) ((bs.drop lo).take (hi - lo)) := by
  have hr := h.hroom
  have hm := h.hmax
  refine ⟨by rw [List.length_take, List.length_drop, h.hlen]; omega, by omega, by omega, ?_⟩
  rcases Nat.eq_or_lt_of_le h1 with e | hlt
  · left; omega
  right
  rcases h.lies with h0 | ⟨b, o, rfl, hb, hc⟩
  · omega
  have hadd : (⟨b, o, none⟩ : Addr).add lo = ⟨b, o + lo, none⟩ := by unfold Addr.add; split <;> simp_all
  refine ⟨b, o + lo, by unfold cutAt; rw [if_neg (by omega), Option.map_some, hadd], hb, fun j hj => ?_⟩
  rw [Nat.add_assoc, hc (lo + j) (by omega)]
  simp only [at8, List.getD_eq_getElem?_getD, List.getElem?_take, List.getElem?_drop]
  rw [if_pos hj]
theorem run_slice_mid {P : Program} (T E : TypeId) (hT : P.underlying T = some (.slice E)) (hs : (P.info? E).map (·.size) = some 1) (bp : Option Addr) (len cap lo hi : Nat) (h1 : lo ≤ hi) (h2 : hi ≤ cap) (w : World) :
    (Instr.sliceAt T (.slice bp len cap) (some (.int .i64 (lo : Int))) (some (.int .i64 (hi : Int))) none).run P w = .ok (.slice (cutAt bp cap lo) (hi - lo) (cap - lo)) w := by
  have hE : P.elem T = E := by simp [Program.elem, hT]
  have hT' : P.underlying T = some (.slice (P.elem T)) := by rw [hE]; exact hT
  have hsz : ∀ w : World, (sizeOf E).run P w = .ok 1 w := fun w => by
    cases hq : P.info? E with
    | none => simp [hq] at hs
    | some i =>
      have hi : i.size = 1 := by simpa [hq] using hs
      simp [sizeOf, typeInfo, hq, hi]
  rw [run_sliceAt_slice (h := hT'), run_slice_lh (ht := hT') (h0 := by omega) (h1 := by omega) (h2 := by omega), hE, hsz w]
  simp only [Result.andThen, sliced, Int.toNat_natCast, Nat.mul_one, cutAt]
theorem run_slice_head {P : Program} (T E : TypeId) (hT : P.underlying T = some (.slice E)) (hs : (P.info? E).map (·.size) = some 1) (bp : Option Addr) (len cap hi : Nat) (h2 : hi ≤ cap) (w : World) :
    (Instr.sliceAt T (.slice bp len cap) none (some (.int .i64 (hi : Int))) none).run P w = .ok (.slice (cutAt bp cap 0) (hi - 0) (cap - 0)) w := by
  have hE : P.elem T = E := by simp [Program.elem, hT]
  have hT' : P.underlying T = some (.slice (P.elem T)) := by rw [hE]; exact hT
  have hsz : ∀ w : World, (sizeOf E).run P w = .ok 1 w := fun w => by
    cases hq : P.info? E with
    | none => simp [hq] at hs
    | some i =>
      have hi : i.size = 1 := by simpa [hq] using hs
      simp [sizeOf, typeInfo, hq, hi]
  rw [run_sliceAt_slice (h := hT'), run_slice_h (ht := hT') (h0 := by omega) (h2 := by omega), hE, hsz w]
  simp only [Result.andThen, sliced, Int.toNat_natCast, Nat.mul_one, cutAt]
theorem run_slice_tail {P : Program} (T E : TypeId) (hT : P.underlying T = some (.slice E)) (hs : (P.info? E).map (·.size) = some 1) (bp : Option Addr) (len cap lo : Nat) (h1 : lo ≤ len) (w : World) :
    (Instr.sliceAt T (.slice bp len cap) (some (.int .i64 (lo : Int))) none none).run P w = .ok (.slice (cutAt bp cap lo) (len - lo) (cap - lo)) w := by
  have hE : P.elem T = E := by simp [Program.elem, hT]
  have hT' : P.underlying T = some (.slice (P.elem T)) := by rw [hE]; exact hT
  have hsz : ∀ w : World, (sizeOf E).run P w = .ok 1 w := fun w => by
    cases hq : P.info? E with
    | none => simp [hq] at hs
    | some i =>
      have hi : i.size = 1 := by simpa [hq] using hs
      simp [sizeOf, typeInfo, hq, hi]
  rw [run_sliceAt_slice (h := hT'), run_slice_l (ht := hT') (h0 := by omega) (h1 := by omega), hE, hsz w]
  simp only [Result.andThen, sliced, Int.toNat_natCast, Nat.mul_one, cutAt]
end Go.Proofs.Ytakejggofghblaa
