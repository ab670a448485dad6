/-
  The program's ring: find.
-/
import Derived.Test.YtegdlpllljccgaaDoorPrChgs
import Derived.WalkSpells
set_option linter.unusedSimpArgs false
set_option linter.unusedVariables false
namespace Go.Proofs.YtegdlpllljccgaaDoor
open Go.RowKit Sh Go.Extern.Stop Go.Stop Go.Extern

theorem infoChgs : (Tryd.prog.info? 50).map (fun i => (i.zero, i.size, i.bytes)) = some (some (.slice none 0 0), 1, 24) := by kernel_rfl
/-- The records that were found, each in a row of its own from block B on. -/
def RecsOk (B : Nat) (w : World) (vs : List Value) (rs : List (List Chg)) : Prop := vs.length = rs.length ∧
  ∀ (i : Nat) (l : List Chg), rs[i]? = some l → ∃ b, B ≤ b ∧ vs[i]? = some (Value.slice (some ⟨b, 0, none⟩) l.length l.length) ∧ w.heap[b]? = some (.cells ((l.map chgC).flatten).toArray 91 (0, 0))
theorem RecsOk.keep {B : Nat} {w w' : World} {vs : List Value} {rs : List (List Chg)} (h : RecsOk B w vs rs) (hk : ∀ b cs, B ≤ b → w.heap[b]? = some (.cells cs 91 (0, 0)) → w'.heap[b]? = w.heap[b]?) : RecsOk B w' vs rs :=
  ⟨h.1, fun i l hi => by obtain ⟨b, h1, h2, h3⟩ := h.2 i l hi; exact ⟨b, h1, h2, (hk b _ h1 h3).trans h3⟩⟩
theorem RecsOk.below {B : Nat} {w w' : World} {vs : List Value} {rs : List (List Chg)} (h : RecsOk B w vs rs) (hb : Below w.heap.size w w') : RecsOk B w' vs rs :=
  h.keep fun b _ _ e => hb.block b (Array.getElem?_eq_some_iff.1 e).1
theorem RecsOk.snoc {B : Nat} {w : World} {vs : List Value} {rs : List (List Chg)} (h : RecsOk B w vs rs) {b : Nat} {l : List Chg} (hb : B ≤ b) (hr : w.heap[b]? = some (.cells ((l.map chgC).flatten).toArray 91 (0, 0))) :
    RecsOk B w (vs ++ [.slice (some ⟨b, 0, none⟩) l.length l.length]) (rs ++ [l]) := by
  refine ⟨by simp [h.1], fun i l' hi => ?_⟩
  by_cases hlt : i < rs.length
  · rw [List.getElem?_append_left hlt] at hi
    obtain ⟨b', h1, h2, h3⟩ := h.2 i l' hi
    exact ⟨b', h1, by rw [List.getElem?_append_left (by rw [h.1]; exact hlt)]; exact h2, h3⟩
  · have hi2 : i = rs.length := by
      have := (List.getElem?_eq_some_iff.1 hi).1
      simp at this; omega
    subst hi2
    rw [List.getElem?_append_right (by omega), Nat.sub_self] at hi
    obtain rfl : l = l' := by simpa using hi
    exact ⟨b, hb, by rw [List.getElem?_append_right (by rw [h.1]; exact Nat.le_refl _), h.1, Nat.sub_self]; rfl, hr⟩
theorem row_form {w : World} {B : Nat} {e : TypeId} {s n : Nat} {v : Value} {xs : List Value} (h : w.ownsRow B e s v n xs) : ∃ ao cap, v = .slice ao n cap := by
  rcases h.2 with ⟨rfl, rfl⟩ | ⟨g, cap, cur, rfl, _⟩
  · exact ⟨none, 0, rfl⟩
  · exact ⟨_, cap, rfl⟩
theorem Only.grownBy {g : Nat} {w w' : World} (h : Only (fun j => j = g) w w') : w.grownBy w' (some g) := ⟨h.os, h.tape, h.output, h.size, fun k hk hne => h.block k hk (fun e => hne (by rw [e]))⟩
theorem row_block {w : World} {B : Nat} {e : TypeId} {s n : Nat} {v : Value} {xs : List Value} (h : w.ownsRow B e s v n xs) {k : Nat} (hk : v.ownBlock = some k) : ∃ cur, w.heap[k]? = some (.cells cur e (0, 0)) := by
  rcases h.2 with ⟨rfl, _⟩ | ⟨g, cap, cur, rfl, _, hg, _⟩
  · simp [Value.ownBlock] at hk
  · simp only [Value.ownBlock, Option.some.injEq] at hk
    subst hk; exact ⟨cur, hg⟩
/-- What turns a row of slices of changes leaves rows of changes. -/
theorem RecsOk.grown {B : Nat} {w w' : World} {vs : List Value} {rs : List (List Chg)} (h : RecsOk B w vs rs) {v : Value} {s n : Nat} {xs : List Value} {C : Nat} (hv : w.ownsRow C 50 s v n xs) (hg : w.grownBy w' v.ownBlock) : RecsOk B w' vs rs :=
  h.keep fun b cs _ e => hg.block b (Array.getElem?_eq_some_iff.1 e).1 (fun hq => by
    obtain ⟨cur, hc⟩ := row_block hv hq.symm
    rw [e] at hc
    simp only [Option.some.injEq, Obj.cells.injEq] at hc
    exact absurd hc.2.1 (by decide))
structure FdW (g gd first n : Nat) (m : Mk) (used : Nat) (pg : Nat → List UInt8) (m0 : Mk) (used0 : Nat) (v : Value) (done : List (List Chg)) (w wr : World) : Prop where
  ring : PrAt g gd first n m used wr
  ok : RingOk first n m used
  own : ∃ vs, wr.ownsRow w.heap.size 50 1 v done.length vs ∧ RecsOk w.heap.size wr vs done
  only : Only (fun j => j = g) w wr
  cnt : done.length ≤ used
  eqn : openAll n pg n (n - used0) m0 = (done ++ (openAll n pg n (n - used) m).1, (openAll n pg n (n - used) m).2)
def FindP (g gd first n : Nat) (r : List (List Chg) × Mk × Nat) (w : World) (e : Ending) (w' : World) : Prop :=
  ∃ v vs used, e = .returned (.tuple #[v, .nilIface]) ∧ PrAt g gd first n r.2.1 used w' ∧ RingOk first n r.2.1 used ∧ n - used = r.2.2 ∧ w'.ownsRow w.heap.size 50 1 v r.1.length vs ∧ RecsOk w.heap.size w' vs r.1 ∧ Only (fun j => j = g) w w'
theorem openAll_one {n : Nat} {pg : Nat → List UInt8} {free : Nat} {m : Mk} (hf : free ≤ n) (h : holds pg free m) :
    openAll n pg n free m = (found pg m :: (openAll n pg n (free - takes (kOf pg m)) (behind n m (kOf pg m) (dig (rawText pg m)))).1, (openAll n pg n (free - takes (kOf pg m)) (behind n m (kOf pg m) (dig (rawText pg m)))).2) := by
  have h1 := holds_free h
  obtain ⟨f, hfe⟩ : ∃ f, n = f + 1 := ⟨n - 1, by omega⟩
  have e : ∀ k, k = f + 1 → openAll n pg k free m = (found pg m :: (openAll n pg f (free - takes (kOf pg m)) (behind n m (kOf pg m) (dig (rawText pg m)))).1, (openAll n pg f (free - takes (kOf pg m)) (behind n m (kOf pg m) (dig (rawText pg m)))).2) := fun k hk => by
    subst hk; rw [openAll, if_pos h]
  rw [e n hfe, openAll_rounds n pg f n _ _ (by have := takes_pos (kOf pg m); omega) (by omega)]
section
variable {g gd first n used : Nat} {m : Mk} {S : St} {F : Nat → Prop} {w w' : World}
set_option maxRecDepth 100000 in
set_option maxHeartbeats 8000000 in
/-- find. -/
theorem find_any (h : PrAt g gd first n m used w) (hO : RingOk first n m used) (hD : PD S F gd w) (hgF : ¬ F g) (hB : Byt S) (ho : S.off = false) (hin : first + n ≤ S.firm.length) :
    Calls Tryd.prog 40 #[.pointer (some ⟨g, 0, none⟩)] w (FindP g gd first n (openAll n (pgOf (imgB S) first n) n (n - used) m) w) := by
  obtain ⟨i0, hi, hzz⟩ := Option.map_eq_some_iff.1 infoChgs
  simp only [Prod.mk.injEq] at hzz
  obtain ⟨hz0, hz1, hz2⟩ := hzz
  have Hi := Lib.hid hi; have Hz0 := Lib.hid hz0; have Hz1 := Lib.hid hz1; have Hz2 := Lib.hid hz2
  clear hi hz0 hz1 hz2
  have hpl := fun i => pg_len (S := S) (first := first) (n := n) hB hin (by have := hO.n0; omega) i
  have hgl := h.lt
  obtain ⟨pg, Hpg⟩ : ∃ pg, Hid (pg = pgOf (imgB S) first n) := ⟨_, rfl⟩
  have HSt : Hid (∀ {W : World} {M : Mk} {U : Nat}, PrAt g gd first n M U W → RingOk first n M U → PD S F gd W → Calls Tryd.prog 56 #[.pointer (some ⟨g, 0, none⟩)] W (StandP pg (n - U) M W)) := by
    rw [Hpg.out]; exact fun h1 h2 h3 => stand_any h1 h2 h3 hB ho hin
  rw [← Hpg.out] at hpl ⊢
  have HPl := Lib.hid hpl
  clear hpl
  go_enter Tryd.func40, Tryd.ntmps40
  go_wp2
  go_loopg [4] (n + 1 - used) (fun gg v wr => ∃ ap cp m' used' done, gg = n + 1 - used' ∧ v = .slice ap done.length cp ∧ FdW g gd first n m' used' pg m used (.slice ap done.length cp) done w wr)
  case atStart => exact ⟨none, 0, m, used, [], rfl, rfl, h, hO, ⟨[], World.ownsRow_nil _ _ _ _, rfl, fun i l hi => by simp at hi⟩, Only.refl _ _, by simp, by simp⟩
  case round =>
    obtain ⟨ap, cp, m', used', done, rfl, rfl, hW⟩ := hrel
    obtain ⟨vs, hown, hrecs⟩ := hW.own
    have hDr : PD S F gd wr := hD.keep hW.only (fun k hk e => hgF (e ▸ hk))
    have hst := HSt.out hW.ring hW.ok hDr
    go_wp2_with (go_at_call 56; refine hst.mono ?_)
    rintro e w2 hp
    rcases hp with ⟨hh, b, hb, rfl, hr2, hb2⟩ | ⟨hno, rfl, hb2⟩
    · obtain ⟨k, hk⟩ : ∃ k, kOf pg m' = k := ⟨_, rfl⟩
      obtain ⟨T, hT⟩ : ∃ T, takes k = T := ⟨_, rfl⟩
      have hone := openAll_one (n := n) (free := n - used') (by omega) hh
      have hk60 := hh.1.2.2.1
      have hfr := (holds_free hh).2
      have hdig := hh.2
      rw [hk] at hr2 hone hk60 hfr
      rw [hT] at hone hfr
      rw [hk, hT]
      have hT3 : T ≤ 65 ∧ 1 ≤ T := by rw [← hT]; unfold takes; omega
      have hkk : (at8 (pg m'.place) 9).toNat = k := hk
      have hlr : (rest pg m'.place k).length + 1 = T := by simp only [rest, List.length_map, List.length_range]; omega
      have hch := changes_any hr2 k T T hkk hT hlr (by omega)
      have hfd : decode (rest pg m'.place k) k = found pg m' := by unfold found; rw [hk]
      rw [hfd] at hch
      have hnn : (binOp .eql 80 (.slice (some ⟨b, 0, none⟩) T T) (.slice none 0 0)).run Tryd.prog w2 = .ok (.bool false) w2 := by kernel_rfl
      go_wp2_with (go_at_call 57; refine hch.mono ?_)
      clear hch hnn
      rintro e w3 ⟨b3, hb3, rfl, hrow3, hbel3⟩
      have hb23 := hb2.trans (hbel3.mono hb2.size)
      have hown3 : w3.ownsRow w.heap.size 50 1 (.slice ap done.length cp) done.length vs := hown.kept (grownBy_of_below (r := none) hb23) (by cases (Value.slice ap done.length cp).ownBlock <;> simp)
      obtain ⟨fd, hfde⟩ : ∃ fd, found pg m' = fd := ⟨_, rfl⟩
      rw [hfde] at hrow3 hone
      rw [hfde]
      obtain ⟨L, hL⟩ : ∃ L, fd.length = L := ⟨_, rfl⟩
      rw [hL]
      have HL := Lib.hid hL
      clear hL
      have hownA := hown3.alloc (.cells #[.slice (some ⟨b3, 0, none⟩) L L] 50)
      have hcell : ∀ (j : Nat) (u : Value), [Value.slice (some ⟨b3, 0, none⟩) L L][j]? = some u → (w3.alloc (.cells #[.slice (some ⟨b3, 0, none⟩) L L] 50)).cell? ((⟨w3.heap.size, 0, none⟩ : Addr).add j) = some u := fun j u hu => by
        match j with
        | 0 =>
          obtain rfl : Value.slice (some ⟨b3, 0, none⟩) L L = u := by simpa using hu
          exact cell_of_row _ w3.heap.size _ _ _ _ (heap_alloc_new w3 _)
        | j + 1 => simp at hu
      have hHc := Lib.hid hcell
      have hlen : done.length + 1 ≤ 4097 := by
        have h1 := hW.cnt; have h2 := hW.ok.used; have h3 := hW.ok.n1; omega
      clear hcell
      go_wp2_with (first
        | (refine wpList_append_own _ rfl _ _ 39 rfl w.heap.size 50 i0 (.slice none 0 0) 1 24 Tryd.underlying39 Hi.out Hz0.out Hz1.out Hz2.out rfl (by decide) _ _ _ rfl hownA ⟨w3.heap.size, 0, none⟩ 1 1 [.slice (some ⟨b3, 0, none⟩) L L] rfl rfl hHc.out (fun u hu => by rw [List.mem_singleton.1 hu]; rfl) (by unfold maxLen; omega) (by omega) (by have := hW.only.size; have := hb23.size; simp; omega) ?_; intro v' w4 hown4 hgr4 _))
      have hb3A : Below w3.heap.size w3 (w3.alloc (.cells #[Value.slice (some ⟨b3, 0, none⟩) L L] 50)) := (Below.refl _ _).alloc (Nat.le_refl _) _
      have hbA := hb23.trans (hb3A.mono hb23.size)
      have hos := hW.only.size
      have hownlt := hown.lt
      have hringA := hW.ring.below hbA
      have hring4 := hringA.of_block (hgr4.block g (by have := hbA.size; have := hW.ring.lt; omega) (fun e => by have := hownlt g e.symm; omega))
      have hrA := (hr2.below hbel3).below hb3A
      have hr4 := hrA.of_block (hgr4.block b hrA.lt (fun e => by have := hownlt b e.symm; omega))
      have hrecsA := (hrecs.below hbA).grown hownA hgr4
      have hrow3A := (hb3A.block b3 (Array.getElem?_eq_some_iff.1 hrow3).1).trans hrow3
      have hrow4 := (hgr4.block b3 (Array.getElem?_eq_some_iff.1 hrow3A).1 (fun e => by have := hownlt b3 e.symm; have := hb2.size; omega)).trans hrow3A
      have hrecs4 := hrecsA.snoc (by have := hb2.size; omega) hrow4
      have ho4 : Only (fun j => j = g) w w4 := (hW.only.trans (Only.of_below (F := fun _ => False) hbA) (fun j hj => hj.elim)).trans (Only.of_grown (F := fun j => some j = (Value.slice ap done.length cp).ownBlock) hgr4 (fun j e => e.symm)) (fun j hj => .inr (hownlt j hj.symm).1)
      have hps := pass_any hring4 hW.ok hr4 (by omega) T T (by omega) (by omega) k hT
      rw [← hdig] at hps
      have Hone := Lib.hid hone
      have Hrecs4 := Lib.hid hrecs4
      have Hown4 := Lib.hid hown4
      have hringok := hW.ok
      have hcnt := hW.cnt
      have Heqn := Lib.hid hW.eqn
      clear hrecs4 hrow4 hrow3A hrecsA hr4 hrA hring4 hringA hone hownA hown3 hown hrecs hgr4 hst hrow3 hr2 hb3A hbA hb23 hbel3 hb2 hown4 hHc hDr hW
      go_wp2_with (go_at_call 58; refine hps.mono ?_)
      rintro e w5 ⟨rfl, hring5, ho5⟩
      obtain ⟨ap', cp', hv'⟩ := row_form Hown4.out
      subst hv'
      have hown5 := Hown4.out.kept ho5.grownBy (by
        rcases hc : (Value.slice ap' (done.length + 1) cp').ownBlock with _ | q
        · exact .inl rfl
        · refine .inr (fun e => ?_)
          have := Hown4.out.lt q hc
          simp only [Option.some.injEq] at e
          omega)
      have hrecs5 := Hrecs4.out.keep (w' := w5) (fun b' cs hb' e => ho5.block b' (Array.getElem?_eq_some_iff.1 e).1 (by omega))
      rw [HL.out] at hrecs5
      have ho05 := ho4.trans ho5 (fun j hj => .inl hj)
      have hmod := Nat.mod_lt (m'.place + takes k) (show 0 < n by have := hringok.n0; omega)
      have hok5 : RingOk first n (behind n m' k (dig (rawText pg m'))) (used' + T) := ⟨hringok.n0, hringok.n1, hringok.first, hmod, Nat.mod_lt _ (by omega), by have := hringok.used; omega⟩
      have hl5 : (done ++ [fd]).length = done.length + 1 := by simp
      have hW5 : FdW g gd first n (behind n m' k (dig (rawText pg m'))) (used' + T) pg m used (.slice ap' (done ++ [fd]).length cp') (done ++ [fd]) w w5 := by
        rw [hl5]
        refine ⟨hring5, hok5, ⟨_, by rw [hl5]; exact hown5, hrecs5⟩, ho05, by rw [hl5]; omega, ?_⟩
        rw [Heqn.out, Hone.out, show n - (used' + T) = n - used' - T from by omega]
        simp
      have HW5 := Lib.hid hW5
      clear hW5 hown5 hrecs5 hring5 ho05 ho5 Hown4 Hrecs4 Heqn Hone hps hl5 hmod
      go_wp2
      go_roundg (n + 1 - (used' + T))
      case measure => have := hringok.used; omega
      case rel => exact ⟨ap', cp', _, _, done ++ [fd], rfl, by rw [List.length_append]; rfl, HW5.out⟩
    · have hstop := openAll_stop (n := n) (pg := pg) (f := n) (free := n - used') (m := m') hno
      have heqn := hW.eqn
      rw [hstop, List.append_nil] at heqn
      have Heqn := Lib.hid heqn
      have hring := hW.ring.below hb2
      have hown2 := hown.kept (grownBy_of_below (r := none) hb2) (by cases (Value.slice ap done.length cp).ownBlock <;> simp)
      have hrecs2 := hrecs.below hb2
      have ho2 := hW.only.trans (Only.of_below (F := fun _ => False) hb2) (fun j hj => hj.elim)
      have hok := hW.ok
      have hnn : (binOp .eql 80 (.slice none 0 0) (.slice none 0 0)).run Tryd.prog w2 = .ok (.bool true) w2 := by kernel_rfl
      clear heqn hstop hst hown hrecs
      go_wp2
      first | go_ret2 | (refine bodyPost_ret (v := .tuple #[.slice ap done.length cp, .nilIface]) (by simp [results, Tryd.results40, go_sem]) rfl ?_)
      refine ⟨.slice ap done.length cp, vs, used', rfl, ?_⟩
      rw [Heqn.out]
      exact ⟨hring, hok, rfl, hown2, hrecs2, ho2⟩
end
end Go.Proofs.YtegdlpllljccgaaDoor
