/-
  A table on a book; a table on a book of the call's own.
-/
import Derived.Test.YtopjhgpgompenaaGreatDoorPnEntry
set_option linter.unusedSimpArgs false
set_option linter.unusedVariables false
namespace Go.Proofs.YtopjhgpgompenaaGreatDoor
open Go.RowKit Sh Go.Maps Go.Extern.Stop Go.Stop Go.Extern

/-- A transaction that went on: at most k pages more, all of them from lo to hi. -/
structure Tx (b : Bk) (t : List Chg) (lo hi k : Nat) : Prop where
  len : t.length ≤ b.txn.length + k
  keys : ∀ c ∈ t, c ∈ b.txn ∨ (lo ≤ c.at_ ∧ c.at_ < hi)
  out : ∀ j, j < b.pages → (j < lo ∨ hi ≤ j) → contB { b with txn := t } j = contB b j
section
variable {b : Bk} {t t' : List Chg} {lo hi k k' : Nat}
theorem Tx.refl (b : Bk) (lo hi : Nat) : Tx b b.txn lo hi 0 := ⟨Nat.le_refl _, fun _ h => .inl h, fun _ _ _ => rfl⟩
theorem Tx.trans (h : Tx b t lo hi k) (h' : Tx { b with txn := t } t' lo hi k') : Tx b t' lo hi (k + k') :=
  ⟨by have h1 := h.len; have h2 : t'.length ≤ t.length + k' := h'.len; omega,
   fun c hc => (h'.keys c hc).elim (fun hm => h.keys c hm) .inr,
   fun j hj ho => (h'.out j hj ho).trans (h.out j hj ho)⟩
theorem Tx.mono (h : Tx b t lo hi k) (hk : k ≤ k') : Tx b t lo hi k' := ⟨by have := h.len; omega, h.keys, h.out⟩
theorem putM_keys {i : Nat} {p : List UInt8} {l : List Chg} (hr : lo ≤ i ∧ i < hi) : ∀ c ∈ putM l i p, c ∈ l ∨ (lo ≤ c.at_ ∧ c.at_ < hi) := fun c hc => by
  rcases mem_putM hc with rfl | h
  · exact .inr hr
  · exact .inl h
/-- A write, where there is room in the transaction. -/
theorem Dur.putx {m0 : Mk} {rs : List (List Chg)} (h : Dur b m0 rs) {i lo' hi' : Nat} (hi : i < b.pages) (hr : lo' ≤ i ∧ i < hi') {p : List UInt8} (hp : p.length = 64) (ht : b.txn.length < 60) :
    ∃ t, bwriteOf b (i : Int) p = ({ b with txn := t }, 0) ∧ Dur { b with txn := t } m0 rs ∧ Tx b t lo' hi' 1 ∧ ∀ j, j < b.pages → contB { b with txn := t } j = upd (contB b) i p j := by
  obtain ⟨t, e, hd, hl, hc⟩ := h.puts hi hp ht
  refine ⟨t, e, hd, ⟨hl, ?_, fun j hj ho => ?_⟩, hc⟩
  · have hk := putM_keys (lo := lo') (hi := hi') (i := i) (p := p) (l := b.txn) hr
    unfold bwriteOf at e
    rw [h.reads hi] at e
    simp only [Int.toNat_natCast, ne_eq, not_true_eq_false, if_false] at e
    have key : t = putM b.txn i p ∨ t = b.txn := by
      split at e
      · exact .inl (congrArg (fun r => r.1.txn) e).symm
      · split at e
        · exact .inr (congrArg (fun r => r.1.txn) e).symm
        · split at e
          · exact absurd (congrArg (fun r => r.2) e) (fun h => by have h2 : (11 : Int) = 0 := h; omega)
          · exact .inl (congrArg (fun r => r.1.txn) e).symm
    rcases key with rfl | rfl
    · exact hk
    · exact fun c hc => .inl hc
  · rw [hc j hj]
    unfold upd
    rw [if_neg (by omega)]
end
/-- A table on a book: its entries. -/
structure Ta (b : Bk) (first n : Nat) (es : List Ent) : Prop where
  ex : ∃ m0 rs, Dur b m0 rs
  len : es.length = n
  at_ : ∀ i e, es[i]? = some e → toldE (contB b (first + i)) = e
  room : first + n ≤ b.pages
section
variable {b : Bk} {first n : Nat} {es : List Ent}
theorem Ta.bok (h : Ta b first n es) : b.Ok := by obtain ⟨_, _, hd⟩ := h.ex; exact hd.ok
theorem Ta.reads (h : Ta b first n es) {i : Nat} (hi : i < n) : pageOf b ((first + i : Nat) : Int) = (contB b (first + i), 0) ∧ (contB b (first + i)).length = 64 := by
  obtain ⟨_, _, hd⟩ := h.ex
  have := h.room
  exact ⟨hd.reads (by omega), hd.cont_len (by omega)⟩
theorem Ta.told (h : Ta b first n es) {i : Nat} (hi : i < n) : toldE (contB b (first + i)) = es.getD i noE := by
  have hl := h.len
  have e := List.getElem?_eq_getElem (l := es) (i := i) (by omega)
  rw [h.at_ i _ e, List.getD_eq_getElem?_getD, e]; rfl
theorem Ta.eok (h : Ta b first n es) {i : Nat} (hi : i < n) : EntOk (es.getD i noE) := by
  rw [← h.told hi]; exact toldE_ok (h.reads hi).2
/-- An entry is set. -/
theorem Ta.sets (h : Ta b first n es) {i : Nat} (hi : i < n) {e : Ent} (he : EntOk e) (ht : b.txn.length < 60) :
    ∃ t, bwriteOf b ((first + i : Nat) : Int) (pgE e) = ({ b with txn := t }, 0) ∧ Ta { b with txn := t } first n (es.set i (normE e)) ∧ Tx b t first (first + n) 1 := by
  obtain ⟨m0, rs, hd⟩ := h.ex
  have hr := h.room
  have hl := h.len
  obtain ⟨t, ew, hd', tx, hc⟩ := hd.putx (i := first + i) (lo' := first) (hi' := first + n) (by omega) (by omega) (pgE_len he) ht
  refine ⟨t, ew, ⟨⟨m0, rs, hd'⟩, by rw [List.length_set]; exact hl, fun j e' hj => ?_, hr⟩, tx⟩
  have hjl : j < n := by have := (List.getElem?_eq_some_iff.1 hj).1; rw [List.length_set] at this; omega
  rw [hc _ (by omega)]
  unfold upd
  by_cases e2 : j = i
  · subst e2
    rw [if_pos rfl, told_pgE he]
    rw [List.getElem?_set_self (by omega)] at hj
    exact Option.some.inj hj
  · rw [if_neg (by omega)]
    rw [List.getElem?_set_ne (fun h => e2 h.symm)] at hj
    exact h.at_ j e' hj
end
/-- A table on a new book. -/
theorem ta_new {D first n : Nat} (h1 : 103 ≤ D) (h2 : D ≤ 4096) (h3 : first + n ≤ min (D - 2 - 100) 2048) : Ta (bk1 D 100) first n (List.replicate n noE) ∧ Co (bk1 D 100) D 0 ∧ (bk1 D 100).txn = [] := by
  have f := fr (D := D) (n := 100) (by omega) (by omega) (by omega) h2
  have hp := f.pages
  refine ⟨⟨⟨_, _, f.dur⟩, List.length_replicate, fun i e he => ?_, by rw [hp]; exact h3⟩, ⟨by rw [f.gen]; omega, by rw [f.ats]; simp, f.len, f.firm⟩, f.txn⟩
  rw [List.getElem?_replicate] at he
  split at he
  · rename_i hi
    have hz : contB (bk1 D 100) (first + i) = List.replicate 64 0 := by
      rw [f.dur.cont (by rw [hp]; omega), f.txn]
      exact f.zero _ (by rw [hp]; omega)
    rw [hz, told_zeroE]
    exact Option.some.inj he
  · cases he
def tabO (g first n : Nat) : Obj := .cells #[.pointer (some ⟨g, 0, none⟩), .int .i64 first, .int .i64 n] 139 (0, 0)
section
variable {b : Bk} {gd g first n x k : Nat} {o : Obj} {T : List (Nat × Obj)} {w0 w w' : World} {es : List Ent}
theorem OwnX.holdsP (h : OwnX b gd g T w0 w) (hb : Below w.heap.size w w') (hk : w.heap.size ≤ k) (ho : w'.heap[k]? = some o) : OwnX b gd g ((k, o) :: T) w0 w' := by
  obtain ⟨Fd, gr, bn, bt, hi, hF⟩ := h.ex
  have hx := h.below hb
  refine ⟨⟨Fd, gr, bn, bt, hi.below hb, fun j hj => ⟨(hF j hj).1, fun y hy => ?_⟩⟩, hx.bel, fun y hy => ?_⟩
  · rcases List.mem_cons.1 hy with rfl | hy
    · have := hi.foot_lt hj
      show j ≠ k
      omega
    · exact (hF j hj).2 y hy
  · rcases List.mem_cons.1 hy with rfl | hy
    · exact ⟨ho, by have := h.bel.size; omega⟩
    · exact hx.arr y hy
theorem OwnX.tab (h : OwnX b gd g T w0 w) (hT : (x, tabO g first n) ∈ T) : TabAt x g first n w := h.at_ hT
/-- What is at a place. -/
theorem OwnX.pentry (h : OwnX b gd g T w0 w) (hT : (x, tabO g first n) ∈ T) (hTa : Ta b first n es) (hf : first ≤ 2000) (hn : n ≤ 2000) {i : Nat} (hi : i < n) :
    Calls Tryz.prog 104 #[.pointer (some ⟨x, 0, none⟩), .int .i64 i] w (RetP (.tuple #[entV (es.getD i noE), .nilIface]) w) := by
  have hr := hTa.reads hi
  have := pentry_any (h.tab hT) (by omega) i (by omega) hr.2 (fun W hW => by
    refine ((h.below hW).read hTa.bok ((first + i : Nat) : Int)).mono ?_
    rintro e w' ⟨u, rfl, hE, _, hb⟩
    rw [hr.1] at hE ⊢
    exact ⟨u, rfl, hE, hb⟩)
  rw [hTa.told hi] at this
  exact this
/-- A page of a table is written. -/
theorem OwnX.pwrite (h : OwnX b gd g T w0 w) (hTa : Ta b first n es) {i : Nat} {e : Ent} (he : EntOk e) {t : List Chg} (ew : bwriteOf b ((first + i : Nat) : Int) (pgE e) = ({ b with txn := t }, 0)) (W : World) (hW : Below w.heap.size w W) :
    Calls Tryz.prog 85 #[.pointer (some ⟨g, 0, none⟩), .int .i64 (first + i : Nat), pageV (pgE e)] W (OwnXP { b with txn := t } 0 gd g T w0) := by
  refine ((h.below hW).write hTa.bok ((first + i : Nat) : Int) (pgE e) (pgE_len he)).mono ?_
  rw [ew]
  exact fun _ _ h => h
end
set_option maxRecDepth 100000 in
theorem phas_nil (i : Int) (w : World) : Calls Tryz.prog 103 #[.pointer none, .int .i64 i] w fun e w' => e = .returned (.bool false) ∧ w = w' := by
  go_enter Tryz.func103, Tryz.ntmps103
  go_wp2
  go_ret
  exact ⟨rfl, rfl⟩
set_option maxRecDepth 100000 in
theorem phas_yes {x g first n : Nat} {w : World} (h : TabAt x g first n w) {i : Nat} (hi : i < n) : Calls Tryz.prog 103 #[.pointer (some ⟨x, 0, none⟩), .int .i64 i] w fun e w' => e = .returned (.bool true) ∧ w = w' := by
  obtain ⟨_, _, c2⟩ := h.cells
  have h0 : (0 : Int) ≤ (i : Int) := by omega
  have h1 : (i : Int) < (n : Int) := by omega
  clear h
  go_enter Tryz.func103, Tryz.ntmps103
  go_wp2
  go_ret
  exact ⟨rfl, rfl⟩
set_option maxRecDepth 100000 in
/-- right, of an entry that may be. -/
theorem pright_yes (e : Ent) (h : EntOk e) (w : World) : Calls Tryz.prog 105 #[entV e] w (RetP (.bool true) w) := by
  have hl := h.dg; have hs := h.slot; have hr := h.refs
  obtain ⟨ev, Hev⟩ : ∃ ev : List Value, Hid (ev = entC e) := ⟨_, rfl⟩
  have hV : entV e = .agg ev.toArray := by rw [Hev.out]; rfl
  rw [hV]
  have hb : Below w.heap.size w (w.alloc (.cells ev.toArray 73)) := (Below.refl _ _).alloc (Nat.le_refl _) _
  have hx : (w.alloc (.cells ev.toArray 73)).heap[w.heap.size]? = some (.cells (entC e).toArray 73 (0, 0)) := by rw [← Hev.out]; exact heap_alloc_new w _
  obtain ⟨c32, c33⟩ := ent_box hx hl
  obtain ⟨S, hS⟩ : ∃ S, e.slot = S := ⟨_, rfl⟩
  obtain ⟨C, hC⟩ : ∃ C, e.refs = C := ⟨_, rfl⟩
  rw [hS] at c32 hs; rw [hC] at c33 hr
  have s0 : (0 : Int) ≤ (S : Int) := by omega
  have s1 : (S : Int) < 256 := by omega
  have r0 : (0 : Int) ≤ (C : Int) := by omega
  have r1 : (C : Int) ≤ 15 := by omega
  have Hb := Lib.hid hb
  clear hx hb hV hS hC
  go_enter Tryz.func105, Tryz.ntmps105
  go_wp2
  go_ret
  exact ⟨rfl, Hb.out⟩
end Go.Proofs.YtopjhgpgompenaaGreatDoor
