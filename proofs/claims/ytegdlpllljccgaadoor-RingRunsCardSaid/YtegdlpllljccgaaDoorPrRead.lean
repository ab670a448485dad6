/-
  The program's ring: read.
-/
import Derived.Test.YtegdlpllljccgaaDoorPrPages
set_option linter.unusedSimpArgs false
set_option linter.unusedVariables false
namespace Go.Proofs.YtegdlpllljccgaaDoor
open Go.RowKit Sh Go.Extern.Stop Go.Stop Go.Extern

/-- L pages were read, or the disk is off. -/
def ReadP (pgs : List (List UInt8)) (L : Nat) (off : Bool) (w : World) (e : Ending) (w' : World) : Prop :=
  (off = false ∧ ∃ b, w.heap.size ≤ b ∧ e = .returned (.tuple #[.slice (some ⟨b, 0, none⟩) L L, .nilIface]) ∧ RecAt b pgs w' ∧ Below w.heap.size w w') ∨
  (off = true ∧ ∃ v, e = .returned (.tuple #[.slice none 0 0, v]) ∧ ErrV w' 10 v ∧ Below w.heap.size w w')
structure RdRow (b : Nat) (pgs : List (List UInt8)) (w wr : World) : Prop where
  rec_ : RecAt b pgs wr
  bel : Below w.heap.size w wr
theorem errNil (v : Value) (h : v = .nilIface) (W : World) : (binOp .neq 32 v .nilIface).run Tryd.prog W = .ok (.bool false) W := by subst h; kernel_rfl
section
variable {g gd first n used : Nat} {m : Mk} {S : St} {F : Nat → Prop} {w w' : World}
set_option maxRecDepth 100000 in
set_option maxHeartbeats 4000000 in
/-- read. -/
theorem pread_on (h : PrAt g gd first n m used w) (hO : RingOk first n m used) (hD : PD S F gd w) (hB : Byt S) (ho : S.off = false) (hin : first + n ≤ S.firm.length) (L : Nat) (hL0 : 0 < L) (hL : L ≤ 4096) :
    Calls Tryd.prog 69 #[.pointer (some ⟨g, 0, none⟩), .int .i64 L] w (ReadP (recPages (pgOf (imgB S) first n) m.place L) L false w) := by
  obtain ⟨n0, n1, f1, pl1, nm1, u1⟩ := hO
  have hpl := fun i => pg_len (S := S) (first := first) (n := n) hB hin (by omega) i
  have hpr := fun i => pg_read (S := S) (first := first) (n := n) hB ho hin (by omega) i
  have hgl := h.lt
  have hmk := make_pages L hL w
  have hz0 : (List.replicate L zeroPage).flatten = ((midPages (pgOf (imgB S) first n) m.place L 0).flatten).map cu8 := by
    rw [midPages_zero, List.map_flatten, List.map_replicate]
    rfl
  rw [hz0] at hmk
  obtain ⟨pg, Hpg⟩ : ∃ pg, Hid (pg = pgOf (imgB S) first n) := ⟨_, rfl⟩
  rw [← Hpg.out] at hmk hpl hpr ⊢
  obtain ⟨cs0, Hcs0⟩ : ∃ cs0, Hid (cs0 = ((midPages pg m.place L 0).flatten).map cu8) := ⟨_, rfl⟩
  rw [← Hcs0.out] at hmk
  have hHP := Lib.hid hpl; have hHR := Lib.hid hpr
  clear hpl hpr hz0
  go_enter Tryd.func69, Tryd.ntmps69
  go_wp2
  clear hmk
  have hrow : RdRow w.heap.size (midPages pg m.place L 0) w (w.alloc (.cells cs0.toArray 63)) :=
    ⟨⟨by rw [← Hcs0.out]; exact heap_alloc_new _ _, midPages_mem hHP.out _ _ _⟩, (Below.refl _ _).alloc (Nat.le_refl _) _⟩
  generalize w.alloc (.cells cs0.toArray 63) = wa at hrow ⊢
  obtain ⟨b, hb⟩ : ∃ b, w.heap.size = b := ⟨_, rfl⟩
  rw [hb] at hrow ⊢
  have Hb := Lib.hid hb
  clear hb
  go_loopg [13] L (fun gg i wr => ∃ k : Nat, k ≤ L ∧ gg = L - k ∧ i = .int .i64 k ∧ RdRow b (midPages pg m.place L k) w wr)
  case atStart => exact ⟨0, by omega, rfl, rfl, hrow⟩
  case round =>
    clear hrow
    obtain ⟨k, hk, rfl, rfl, hrow⟩ := hrel
    by_cases hlt : k < L
    · have hlt' : (k : Int) < L := by omega
      have hS0' := h.below hrow.bel
      have hD0' := hD.below hrow.bel
      go_upto_region 5 with (fail)
      refine wp_region_up 13 (fun w' => Below wr.heap.size wr w') (by kernel_rfl) ?_
      have hb2 : Below wr.heap.size wr { wr with drawn := wr.drawn + 1 } := ⟨rfl, rfl, rfl, Nat.le_refl _, fun _ _ => rfl⟩
      obtain ⟨wd, hdr⟩ : ∃ wd : World, ({ wr with drawn := wr.drawn + 1 } : World) = wd := ⟨_, rfl⟩
      rw [hdr] at hb2 ⊢
      clear hdr
      have hOk : RingOk first n m used := ⟨n0, n1, f1, pl1, nm1, u1⟩
      obtain ⟨Q, hQ⟩ : ∃ Q : Nat, first + (m.place + k) % n = Q := ⟨_, rfl⟩
      have hrd := hHR.out (m.place + k)
      rw [hQ] at hrd
      obtain ⟨q, Hq⟩ : ∃ q, Hid (q = pg (m.place + k)) := ⟨_, rfl⟩
      rw [← Hq.out] at hrd
      have hq64 : q.length = 64 := by rw [Hq.out]; exact hHP.out _
      obtain ⟨qv, Hqv⟩ : ∃ qv : List Value, Hid (qv = q.map cu8) := ⟨_, rfl⟩
      rw [← Hqv.out] at hrd
      have hqvl : qv.length = 64 := by rw [Hqv.out, List.length_map, hq64]
      have hqi : Hid ((Tryd.prog.info? 63).map (·.size) = some qv.length) := by rw [hqvl]; exact info64
      have hqi2 : Hid ((Tryd.prog.info? 63).map (·.size) = some qv.toArray.size) := by rw [List.size_toArray, hqvl]; exact info64
      have hqz : Hid (zeros64.size = qv.toArray.size) := by rw [show qv.toArray.size = 64 from by rw [List.size_toArray, hqvl]]; exact (rfl : zeros64.size = 64)
      have hq1 : Hid (qv.toArray.all (·.oneCell') = true) := by rw [Hqv.out]; exact bytes_one _
      have Hsec := Lib.hid (fun W (hW : Below wr.heap.size wr W) => by have := sector_any (hS0'.below hW) hOk k (by omega); rw [hQ] at this; exact this)
      have Hred := Lib.hid (fun W (hW : Below wr.heap.size wr W) => by have := pd_read (hD0'.below hW) (Q : Int); rw [hrd] at this; exact this)
      have HS := Lib.hid hS0'
      clear hrd hQ hS0' hD0' hOk
      refine up_take (i := 0) (v := .pointer (some ⟨g, 0, none⟩)) rfl (by kernel_rfl) (by kernel_rfl) (fun _ _ _ h => h) (Or.inl ⟨by rfl, ?_⟩) hb2 ?_
      · intro w' _; go_simp
      try simp only [List.getElem_toArray, List.getElem_cons_succ, List.getElem_cons_zero, Act.put, List.setIfInBounds_toArray, List.set]
      refine up_take (i := 1) (v := .pointer (some ⟨g, 0, none⟩)) rfl (by kernel_rfl) (by kernel_rfl) (fun _ _ _ h => h) (Or.inl ⟨by rfl, ?_⟩) hb2 ?_
      · intro w' _; go_simp
      try simp only [List.getElem_toArray, List.getElem_cons_succ, List.getElem_cons_zero, Act.put, List.setIfInBounds_toArray, List.set]
      refine up_take (i := 2) (v := .pointer (some ⟨g, 0, none⟩)) rfl (by kernel_rfl) (by kernel_rfl) (fun _ _ _ h => h) (Or.inl ⟨by rfl, ?_⟩) hb2 ?_
      · intro w' _; go_simp
      try simp only [List.getElem_toArray, List.getElem_cons_succ, List.getElem_cons_zero, Act.put, List.setIfInBounds_toArray, List.set]
      refine up_take (i := 3) (v := .pointer (some ⟨gd, 0, none⟩)) rfl (by kernel_rfl) (by kernel_rfl) (fun _ _ _ h => h) (Or.inl ⟨by rfl, ?_⟩) hb2 ?_
      · intro w' hS'
        obtain ⟨c0, _⟩ := PrAt.cells (HS.out.below hS')
        clear hS'
        go_simp
      try simp only [List.getElem_toArray, List.getElem_cons_succ, List.getElem_cons_zero, Act.put, List.setIfInBounds_toArray, List.set]
      refine up_take (i := 4) (v := .pointer (some ⟨g, 0, none⟩)) rfl (by kernel_rfl) (by kernel_rfl) (fun _ _ _ h => h) (Or.inl ⟨by rfl, ?_⟩) hb2 ?_
      · intro w' _; go_simp
      try simp only [List.getElem_toArray, List.getElem_cons_succ, List.getElem_cons_zero, Act.put, List.setIfInBounds_toArray, List.set]
      refine up_take (i := 5) (v := .int .i64 k) rfl (by kernel_rfl) (by kernel_rfl) (fun _ _ _ h => h) (Or.inl ⟨by rfl, ?_⟩) hb2 ?_
      · intro w' _; go_simp
      try simp only [List.getElem_toArray, List.getElem_cons_succ, List.getElem_cons_zero, Act.put, List.setIfInBounds_toArray, List.set]
      refine up_two 6 11 _ _ rfl rfl (by kernel_rfl) (by decide) (by decide) (by rfl) (by rfl) (fun K hK => ?p2) (fun K hK => ?q2)
      case' p2 =>
        go_simp
        refine (Hsec.out _ hb2).mono ?_
        rintro e w7 ⟨rfl, mq, rfl⟩
        have hb3 := hb2.trans (below_drewN wd mq _)
        generalize hwn : wd.drewN mq = ws at *
        refine hK _ _ hb3 ?_
        clear hK K hwn
        try simp only [List.getElem_toArray, List.getElem_cons_succ, List.getElem_cons_zero, Act.put, List.setIfInBounds_toArray, List.set]
        refine up_two 7 11 _ _ rfl rfl (by kernel_rfl) (by decide) (by decide) (by rfl) (by rfl) (fun K hK => ?p1) (fun K hK => ?q1)
        case' p1 =>
          go_simp
          refine (Hred.out _ hb3).mono ?_
          rintro e wt ⟨v, rfl, hE, hbq⟩
          obtain rfl := ErrV.zero hE
          have hb4 := hb3.trans (hbq.mono hb3.size)
          refine hK _ _ hb4 ?_
          clear hK K hE
          try simp only [List.getElem_toArray, List.getElem_cons_succ, List.getElem_cons_zero, Act.put, List.setIfInBounds_toArray, List.set]
          refine up_take (i := 8) (v := .tuple #[.agg qv.toArray, .nilIface]) rfl (by kernel_rfl) (by kernel_rfl) (fun _ _ _ h => h) (Or.inl ⟨by rfl, ?_⟩) hb4 ?_
          · intro w' _; go_simp
          try simp only [List.getElem_toArray, List.getElem_cons_succ, List.getElem_cons_zero, Act.put, List.setIfInBounds_toArray, List.set]
          refine up_take (i := 9) (v := .agg qv.toArray) rfl (by kernel_rfl) (by kernel_rfl) (fun _ _ _ h => h) (Or.inl ⟨by rfl, ?_⟩) hb4 ?_
          · intro w' _; go_simp
          try simp only [List.getElem_toArray, List.getElem_cons_succ, List.getElem_cons_zero, Act.put, List.setIfInBounds_toArray, List.set]
          refine up_take (i := 10) (v := .nilIface) rfl (by kernel_rfl) (by kernel_rfl) (fun _ _ _ h => h) (Or.inl ⟨by rfl, ?_⟩) hb4 ?_
          · intro w' _; go_simp
          try simp only [List.getElem_toArray, List.getElem_cons_succ, List.getElem_cons_zero, Act.put, List.setIfInBounds_toArray, List.set]
          refine up_one 11 _ rfl (by kernel_rfl) (by decide) (by rfl) (fun K hK => ?_)
          refine wp_alloc_arr 63 rfl _ alloc64 ?_
          have hb4' := hb4.alloc hb4.size (.cells zeros64 63)
          obtain ⟨x, hxe⟩ : ∃ x, wt.heap.size = x := ⟨_, rfl⟩
          have hx : (wt.alloc (.cells zeros64 63)).heap[x]? = some (.cells zeros64 63 (0, 0)) := by rw [← hxe]; exact heap_alloc_new _ _
          generalize hwa : wt.alloc (.cells zeros64 63) = wu at *
          rw [hxe]
          clear hwa
          have hxl : wr.heap.size ≤ x := by have := hb4.size; omega
          refine hK _ _ hb4' ?_
          clear hK K
          try simp only [List.getElem_toArray, List.getElem_cons_succ, List.getElem_cons_zero, Act.put, List.setIfInBounds_toArray, List.set]
          refine up_one 12 _ rfl (by kernel_rfl) (by decide) (by rfl) (fun K hK => ?_)
          refine wp_store_row 63 _ _ rfl x qv.toArray rfl rfl 63 zeros64 hx hqi2.out hqz.out hq1.out ?_
          refine hK _ _ (below_setRow hb4' hxl _) ?_
          clear hK K
          try simp only [List.getElem_toArray, List.getElem_cons_succ, List.getElem_cons_zero, Act.put, List.setIfInBounds_toArray, List.set]
          refine up_tail ?_
          refine up_last 13 _ rfl (by kernel_rfl) (by decide) (by rfl) (fun K hK => ?_)
          go_simp
          refine hK _ _ ?_
          clear hK K
          try simp only [List.getElem_toArray, List.getElem_cons_succ, List.getElem_cons_zero, Act.put, List.setIfInBounds_toArray, List.set]
          refine up_done (by kernel_rfl) ?_ _
          have hb5 : Below wr.heap.size wr (wu.setRow x qv.toArray) := below_setRow hb4' hxl _
          have hx5 : (wu.setRow x qv.toArray).heap[x]? = some (.cells qv.toArray 63 (0, 0)) := setRow_heap _ _ _ _ _ _ hx
          clear hx
          generalize wu.setRow x qv.toArray = w5 at hb5 hx5 ⊢
        case' q1 =>
          refine wp_alloc_arr 63 rfl _ alloc64 ?_
          have hb4 := hb3.alloc hb3.size (.cells zeros64 63)
          obtain ⟨x, hxe⟩ : ∃ x, ws.heap.size = x := ⟨_, rfl⟩
          have hx : (ws.alloc (.cells zeros64 63)).heap[x]? = some (.cells zeros64 63 (0, 0)) := by rw [← hxe]; exact heap_alloc_new _ _
          generalize hwa : ws.alloc (.cells zeros64 63) = wt at *
          rw [hxe]
          clear hwa
          have hxl : wr.heap.size ≤ x := by have := hb3.size; omega
          refine hK _ _ hb4 ?_
          clear hK K
          try simp only [List.getElem_toArray, List.getElem_cons_succ, List.getElem_cons_zero, Act.put, List.setIfInBounds_toArray, List.set]
          refine up_one 7 _ rfl (by kernel_rfl) (by decide) (by rfl) (fun K hK => ?_)
          go_simp
          refine (Hred.out _ hb4).mono ?_
          rintro e wu ⟨v, rfl, hE, hbq⟩
          obtain rfl := ErrV.zero hE
          have hb4' := hb4.trans (hbq.mono hb4.size)
          have hx := (hbq.block x (Array.getElem?_eq_some_iff.1 hx).1).trans hx
          refine hK _ _ hb4' ?_
          clear hK K hE
          try simp only [List.getElem_toArray, List.getElem_cons_succ, List.getElem_cons_zero, Act.put, List.setIfInBounds_toArray, List.set]
          refine up_take (i := 8) (v := .tuple #[.agg qv.toArray, .nilIface]) rfl (by kernel_rfl) (by kernel_rfl) (fun _ _ _ h => h) (Or.inl ⟨by rfl, ?_⟩) hb4' ?_
          · intro w' _; go_simp
          try simp only [List.getElem_toArray, List.getElem_cons_succ, List.getElem_cons_zero, Act.put, List.setIfInBounds_toArray, List.set]
          refine up_take (i := 9) (v := .agg qv.toArray) rfl (by kernel_rfl) (by kernel_rfl) (fun _ _ _ h => h) (Or.inl ⟨by rfl, ?_⟩) hb4' ?_
          · intro w' _; go_simp
          try simp only [List.getElem_toArray, List.getElem_cons_succ, List.getElem_cons_zero, Act.put, List.setIfInBounds_toArray, List.set]
          refine up_take (i := 10) (v := .nilIface) rfl (by kernel_rfl) (by kernel_rfl) (fun _ _ _ h => h) (Or.inl ⟨by rfl, ?_⟩) hb4' ?_
          · intro w' _; go_simp
          try simp only [List.getElem_toArray, List.getElem_cons_succ, List.getElem_cons_zero, Act.put, List.setIfInBounds_toArray, List.set]
          refine up_one 12 _ rfl (by kernel_rfl) (by decide) (by rfl) (fun K hK => ?_)
          refine wp_store_row 63 _ _ rfl x qv.toArray rfl rfl 63 zeros64 hx hqi2.out hqz.out hq1.out ?_
          refine hK _ _ (below_setRow hb4' hxl _) ?_
          clear hK K
          try simp only [List.getElem_toArray, List.getElem_cons_succ, List.getElem_cons_zero, Act.put, List.setIfInBounds_toArray, List.set]
          refine up_tail ?_
          refine up_last 13 _ rfl (by kernel_rfl) (by decide) (by rfl) (fun K hK => ?_)
          go_simp
          refine hK _ _ ?_
          clear hK K
          try simp only [List.getElem_toArray, List.getElem_cons_succ, List.getElem_cons_zero, Act.put, List.setIfInBounds_toArray, List.set]
          refine up_done (by kernel_rfl) ?_ _
          have hb5 : Below wr.heap.size wr (wu.setRow x qv.toArray) := below_setRow hb4' hxl _
          have hx5 : (wu.setRow x qv.toArray).heap[x]? = some (.cells qv.toArray 63 (0, 0)) := setRow_heap _ _ _ _ _ _ hx
          clear hx
          generalize wu.setRow x qv.toArray = w5 at hb5 hx5 ⊢
      case' q2 =>
        refine wp_alloc_arr 63 rfl _ alloc64 ?_
        have hb3 := hb2.alloc hb2.size (.cells zeros64 63)
        obtain ⟨x, hxe⟩ : ∃ x, wd.heap.size = x := ⟨_, rfl⟩
        have hx : (wd.alloc (.cells zeros64 63)).heap[x]? = some (.cells zeros64 63 (0, 0)) := by rw [← hxe]; exact heap_alloc_new _ _
        generalize hwa : wd.alloc (.cells zeros64 63) = ws at *
        rw [hxe]
        clear hwa
        have hxl : wr.heap.size ≤ x := by have := hb2.size; omega
        refine hK _ _ hb3 ?_
        clear hK K
        try simp only [List.getElem_toArray, List.getElem_cons_succ, List.getElem_cons_zero, Act.put, List.setIfInBounds_toArray, List.set]
        refine up_one 6 _ rfl (by kernel_rfl) (by decide) (by rfl) (fun K hK => ?_)
        go_simp
        refine (Hsec.out _ hb3).mono ?_
        rintro e w7 ⟨rfl, mq, rfl⟩
        have hb4 := hb3.trans (below_drewN ws mq _)
        have hx : (ws.drewN mq).heap[x]? = some (.cells zeros64 63 (0, 0)) := hx
        generalize hwn : ws.drewN mq = wt at *
        refine hK _ _ hb4 ?_
        clear hK K hwn
        try simp only [List.getElem_toArray, List.getElem_cons_succ, List.getElem_cons_zero, Act.put, List.setIfInBounds_toArray, List.set]
        refine up_one 7 _ rfl (by kernel_rfl) (by decide) (by rfl) (fun K hK => ?_)
        go_simp
        refine (Hred.out _ hb4).mono ?_
        rintro e wu ⟨v, rfl, hE, hbq⟩
        obtain rfl := ErrV.zero hE
        have hb4' := hb4.trans (hbq.mono hb4.size)
        have hx := (hbq.block x (Array.getElem?_eq_some_iff.1 hx).1).trans hx
        refine hK _ _ hb4' ?_
        clear hK K hE
        try simp only [List.getElem_toArray, List.getElem_cons_succ, List.getElem_cons_zero, Act.put, List.setIfInBounds_toArray, List.set]
        refine up_take (i := 8) (v := .tuple #[.agg qv.toArray, .nilIface]) rfl (by kernel_rfl) (by kernel_rfl) (fun _ _ _ h => h) (Or.inl ⟨by rfl, ?_⟩) hb4' ?_
        · intro w' _; go_simp
        try simp only [List.getElem_toArray, List.getElem_cons_succ, List.getElem_cons_zero, Act.put, List.setIfInBounds_toArray, List.set]
        refine up_take (i := 9) (v := .agg qv.toArray) rfl (by kernel_rfl) (by kernel_rfl) (fun _ _ _ h => h) (Or.inl ⟨by rfl, ?_⟩) hb4' ?_
        · intro w' _; go_simp
        try simp only [List.getElem_toArray, List.getElem_cons_succ, List.getElem_cons_zero, Act.put, List.setIfInBounds_toArray, List.set]
        refine up_take (i := 10) (v := .nilIface) rfl (by kernel_rfl) (by kernel_rfl) (fun _ _ _ h => h) (Or.inl ⟨by rfl, ?_⟩) hb4' ?_
        · intro w' _; go_simp
        try simp only [List.getElem_toArray, List.getElem_cons_succ, List.getElem_cons_zero, Act.put, List.setIfInBounds_toArray, List.set]
        refine up_one 12 _ rfl (by kernel_rfl) (by decide) (by rfl) (fun K hK => ?_)
        refine wp_store_row 63 _ _ rfl x qv.toArray rfl rfl 63 zeros64 hx hqi2.out hqz.out hq1.out ?_
        refine hK _ _ (below_setRow hb4' hxl _) ?_
        clear hK K
        try simp only [List.getElem_toArray, List.getElem_cons_succ, List.getElem_cons_zero, Act.put, List.setIfInBounds_toArray, List.set]
        refine up_tail ?_
        refine up_last 13 _ rfl (by kernel_rfl) (by decide) (by rfl) (fun K hK => ?_)
        go_simp
        refine hK _ _ ?_
        clear hK K
        try simp only [List.getElem_toArray, List.getElem_cons_succ, List.getElem_cons_zero, Act.put, List.setIfInBounds_toArray, List.set]
        refine up_done (by kernel_rfl) ?_ _
        have hb5 : Below wr.heap.size wr (wu.setRow x qv.toArray) := below_setRow hb4' hxl _
        have hx5 : (wu.setRow x qv.toArray).heap[x]? = some (.cells qv.toArray 63 (0, 0)) := setRow_heap _ _ _ _ _ _ hx
        clear hx
        generalize wu.setRow x qv.toArray = w5 at hb5 hx5 ⊢
      all_goals
        have hr5 : RdRow b (midPages pg m.place L k) w w5 := ⟨hrow.rec_.of_block (hb5.block b hrow.rec_.lt), by have h1 := hrow.bel; exact h1.trans (hb5.mono h1.size)⟩
        have hcell := Lib.hid (run_loadAt_mid (P := Tryd.prog) w5 x 0 63 qv _ (fun j v hj => by rw [Nat.zero_add, cell_of_row w5 x j _ _ _ hx5]; simpa using hj) Tryd.underlying63 rfl hqi.out)
        have Hat := Lib.hid hr5.rec_.at_
        have hmid : Hid (k * 64 + qv.toArray.size ≤ (((midPages pg m.place L k).flatten).map cu8).length) := by
          show k * 64 + qv.toArray.size ≤ (((midPages pg m.place L k).flatten).map cu8).length
          rw [List.length_map, flat_len hr5.rec_.len, midPages_length, List.size_toArray, hqvl]; omega
        have hone : Hid (∀ v ∈ qv.toArray.toList, v.oneCell' = true) := fun v hv => by rw [Hqv.out] at hv; obtain ⟨y, _, rfl⟩ := List.mem_map.1 (by simpa using hv); rfl
        have hspl : Hid (splice (((midPages pg m.place L k).flatten).map cu8) (k * 64) qv = ((midPages pg m.place L (k + 1)).flatten).map cu8) := by
          rw [Hqv.out, ← midPages_set, ← Hq.out]
          exact splice_flat hr5.rec_.len (by rw [midPages_length]; exact hlt) hq64
        have Hx5 := Lib.hid hr5
        clear hr5 hx5 hb5
        go_wp2_with (first
          | (refine wpList_load_page _ rfl x 0 rfl _ hcell.out (by rfl) ?_)
          | (refine wpList_store_into rfl 63 _ _ rfl b (k * 64) qv.toArray rfl rfl _ 63 Hat.out hqi2.out hmid.out hone.out ?_; intro w6 Hs6 Hg6))
        have hrow6 : RdRow b (midPages pg m.place L (k + 1)) w w6 := ⟨⟨by have := Hs6.out; rw [hspl.out] at this; exact this, midPages_mem hHP.out _ _ _⟩,
          by have h1 := Hx5.out.bel; exact below_of_grown h1 Hg6.out (by have := Hb.out; have := h1.size; omega) (by have := Hb.out; omega)⟩
        clear hcell Hat hmid hone hspl Hs6 Hg6 Hx5
        go_roundg (L - (k + 1))
        case measure => omega
        case rel => exact ⟨k + 1, by omega, rfl, by go_num, hrow6⟩
    · obtain rfl : k = L := by omega
      rw [midPages_all] at hrow
      go_wp2
      first | go_ret2 | (refine bodyPost_ret (v := .tuple #[.slice (some ⟨b, 0, none⟩) k k, .nilIface]) (by simp [results, Tryd.results69, go_sem]) rfl ?_)
      exact .inl ⟨rfl, b, by rw [Hb.out]; exact Nat.le_refl _, rfl, hrow.rec_, hrow.bel⟩
end
end Go.Proofs.YtegdlpllljccgaaDoor
