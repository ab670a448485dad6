/-
  'CrcRest': its walk.
-/
import Derived.Test.YtmbhfmipmadjpaaCrcJoin
namespace Go.Proofs.Ytmbhfmipmadjpaa
open Go.RowKit Sh Cr

/-- The sum of bytes and their own sum. -/
theorem sum_rest (bs : List UInt8) : Cr.sum ([] ++ bs ++ le4 (Cr.sum bs)) = Cr.sum [0, 0, 0, 0] := by
  have h1 := (fits_iff bs (Cr.sum bs)).1 rfl
  have h2 : Cr.sum [0, 0, 0, 0] = ~~~ feed (le4 0) ones := rfl
  rw [h2, feed_le4, UInt32.xor_zero, List.nil_append, ← h1]
  rfl

set_option maxRecDepth 100000 in
set_option maxHeartbeats 1600000 in
theorem crcRest_any (bp : Option Addr) (len cap : Nat) (bs : List UInt8) (w : World) (hB : Bytes w.heap.size w bp len cap bs) (hlen : len ≤ 140737488351232) :
    Calls Try.prog 7 #[.slice bp len cap] w (TruePost w) := by
  have hm := Lib.hid hB.hmax
  go_enter Try.func7, Try.ntmps7
  go_wp2_with (first
    | (go_at_call 8; refine (stands_any _).mono ?_; rintro e w1 ⟨rfl, hb1⟩)
    | (go_at_call 11; refine (sumNil_any bp len cap bs w1 ((hB.below hb1).mono hb1.size)).mono ?_; rintro e w2 ⟨rfl, hb2⟩; have hB2 : Below w.heap.size w w2 := hb1.trans (hb2.mono hb1.size))
    | (go_at_call 14; refine (bytes_any _ w2).mono ?_; rintro e w3 ⟨rv, Hrv, rfl, hb3⟩; have hB3 : Below w.heap.size w w3 := hB2.trans (hb3.mono hB2.size); clear hb1 hb2 hb3 hB2)
    | (refine wpList_alloc_arr rfl 36 rfl _ alloc4 ?_)
    | (refine wpList_store_new rfl 36 _ _ rfl w3.heap.size rfl rv rfl rfl 36 _ (by rw [(a4_size Hrv).out]; kernel_rfl) (by rw [(a4_size Hrv).out]; kernel_rfl) (a4_one Hrv).out ?_
       have hr4 : (w3.alloc (.cells rv 36)).heap[w3.heap.size]? = some (.cells rv 36 (0, 0)) := heap_alloc_new w3 _
       have hbW : Below w.heap.size w (w3.alloc (.cells rv 36)) := hB3.alloc hB3.size _
       generalize w3.alloc (.cells rv 36) = w4 at hr4 hbW ⊢
       generalize w3.heap.size = g4 at hr4 ⊢))
  have hT4 := a4_bytes hr4 Hrv
  have hB4 := (hB.below hbW).mono hbW.size
  obtain ⟨s, hs⟩ : ∃ s, Hid (Cr.sum bs = s) := ⟨_, rfl⟩
  rw [hs.out] at hT4
  obtain ⟨z, hz2⟩ : ∃ z, Hid (Cr.sum [0, 0, 0, 0] = z) := ⟨_, rfl⟩
  have hz1 : Hid (Cr.sum ([] ++ bs ++ le4 s) = z) := Lib.hid (by rw [← hs.out, sum_rest, hz2.out])
  clear hB hr4
  obtain ⟨L, HL⟩ : ∃ L, Hid (len + 4 = L) := ⟨_, rfl⟩
  refine wp_region_held (S := fun w' => Below w4.heap.size w4 w') (by kernel_rfl) ?_
  change wpAnyH _ _ _ _ _ _ _ _ (World.drew _)
  have hS5 : Below w4.heap.size w4 w4.drew := ⟨rfl, rfl, rfl, Nat.le_refl _, fun _ _ => rfl⟩
  generalize w4.drew = w5 at hS5 ⊢
  refine wpAnyH_take (i := 0) (v := .slice bp len cap) rfl (by kernel_rfl) (by kernel_rfl) (by kernel_rfl) (fun _ _ _ h => h) (Or.inl ⟨by rfl, ?_⟩) hS5 ?_
  · intro w _; go_simp
  try simp only [List.getElem_toArray, List.getElem_cons_zero, Act.put, List.setIfInBounds_toArray, List.set]
  refine wpAnyH_take (i := 2) (v := .slice (some ⟨g4, 0, none⟩) 4 4) rfl (by kernel_rfl) (by kernel_rfl) (by kernel_rfl) (fun _ _ _ h => h) (Or.inl ⟨by rfl, ?_⟩) hS5 ?_
  · intro w _; go_simp
  try simp only [List.getElem_toArray, List.getElem_cons_succ, List.getElem_cons_zero, Act.put, List.setIfInBounds_toArray, List.set]
  refine wpAnyH_two 1 5 _ _ rfl rfl (by kernel_rfl) (by rfl) (by rfl) (fun K hK => ?_) (fun K hK => ?_)
  · refine wp_join w4 w5 (.const (.slice none 0 0)) _ rfl (.slice none 0 0) 0 [] rfl (Own.start hS5) _ bp len cap bs rfl (hB4.below hS5) len (by omega) (by omega) ?_
    intro v6 w6 hO6 hX6
    have hS6 : Below w4.heap.size w4 w6 := hO6.below
    obtain ⟨p6, c6, rfl, hP6⟩ := hO6.bytes
    refine hK _ _ hS6 ?_
    clear hK K
    try simp only [List.getElem_toArray, List.getElem_cons_succ, List.getElem_cons_zero, Act.put, List.setIfInBounds_toArray, List.set]
    refine wpAnyH_two 3 5 _ _ rfl rfl (by kernel_rfl) (by rfl) (by rfl) (fun K hK => ?_) (fun K hK => ?_)
    · refine wp_join w4 w6 _ _ rfl _ _ _ rfl hO6 _ (some ⟨g4, 0, none⟩) 4 4 (le4 s) rfl (hT4.below hS6) L HL.out (by have := HL.out; omega) ?_
      intro v7 w7 hO7 hX7
      have hS7 : Below w4.heap.size w4 w7 := hO7.below
      obtain ⟨p7, c7, rfl, hP7⟩ := hO7.bytes
      refine hK _ _ hS7 ?_
      clear hK K
      try simp only [List.getElem_toArray, List.getElem_cons_succ, List.getElem_cons_zero, Act.put, List.setIfInBounds_toArray, List.set]
      refine wpAnyH_two 4 5 _ _ rfl rfl (by kernel_rfl) (by rfl) (by rfl) (fun K hK => ?_) (fun K hK => ?_)
      · go_simp
        refine (sumNil_any _ _ _ _ w7 hP7).mono ?_
        rintro e w8 ⟨he, hX8⟩
        rw [hz1.out] at he
        subst he
        have hS8 : Below w4.heap.size w4 w8 := hS7.trans (hX8.mono hS7.size)
        refine hK _ _ hS8 ?_
        clear hK K
        try simp only [List.getElem_toArray, List.getElem_cons_succ, List.getElem_cons_zero, Act.put, List.setIfInBounds_toArray, List.set]
        refine wpAnyH_one 5 _ rfl (by kernel_rfl) (by rfl) (fun K hK => ?_)
        refine wp_make4 w8 rfl ?_
        intro gm w9 hgm hX9 hM9
        have hS9 : Below w4.heap.size w4 w9 := hS8.trans (hX9.mono hS8.size)
        refine hK _ _ hS9 ?_
        clear hK K
        try simp only [List.getElem_toArray, List.getElem_cons_succ, List.getElem_cons_zero, Act.put, List.setIfInBounds_toArray, List.set]
        refine wpAnyH_one 6 _ rfl (by kernel_rfl) (by rfl) (fun K hK => ?_)
        go_simp
        refine (sumNil_any _ _ _ _ w9 hM9.bytes).mono ?_
        rintro e w10 ⟨he, hX10⟩
        rw [hz2.out] at he
        subst he
        have hS10 : Below w4.heap.size w4 w10 := hS9.trans (hX10.mono hS9.size)
        refine hK _ _ hS10 ?_
        clear hK K
        try simp only [List.getElem_toArray, List.getElem_cons_succ, List.getElem_cons_zero, Act.put, List.setIfInBounds_toArray, List.set]
        refine wpAnyH_take (i := 7) (v := .bool true) rfl (by kernel_rfl) (by kernel_rfl) (by kernel_rfl) (fun _ _ _ h => h) (Or.inl ⟨by rfl, ?_⟩) hS10 ?_
        · intro w _; go_simp
        try simp only [List.getElem_toArray, List.getElem_cons_succ, List.getElem_cons_zero, Act.put, List.setIfInBounds_toArray, List.set]
        refine wpAnyH_take (i := 8) (v := .bool true) rfl (by kernel_rfl) (by kernel_rfl) (by kernel_rfl) (fun _ _ _ h => h) (Or.inl ⟨by rfl, ?_⟩) hS10 ?_
        · intro w _; go_simp
        try simp only [List.getElem_toArray, List.getElem_cons_succ, List.getElem_cons_zero, Act.put, List.setIfInBounds_toArray, List.set]
        refine wpAnyH_done (by kernel_rfl) ?_ _
        go_wp2
        go_ret
        exact ⟨rfl, hbW.trans (hS10.mono hbW.size)⟩
      · refine wp_make4 w7 rfl ?_
        intro gm w8 hgm hX8 hM8
        have hS8 : Below w4.heap.size w4 w8 := hS7.trans (hX8.mono hS7.size)
        have hP8 := (hP7.below hX8).mono hX8.size
        refine hK _ _ hS8 ?_
        clear hK K
        try simp only [List.getElem_toArray, List.getElem_cons_succ, List.getElem_cons_zero, Act.put, List.setIfInBounds_toArray, List.set]
        refine wpAnyH_one 4 _ rfl (by kernel_rfl) (by rfl) (fun K hK => ?_)
        go_simp
        refine (sumNil_any _ _ _ _ w8 hP8).mono ?_
        rintro e w9 ⟨he, hX9⟩
        rw [hz1.out] at he
        subst he
        have hS9 : Below w4.heap.size w4 w9 := hS8.trans (hX9.mono hS8.size)
        have hM9 := hM8.keep hX9
        refine hK _ _ hS9 ?_
        clear hK K
        try simp only [List.getElem_toArray, List.getElem_cons_succ, List.getElem_cons_zero, Act.put, List.setIfInBounds_toArray, List.set]
        refine wpAnyH_one 6 _ rfl (by kernel_rfl) (by rfl) (fun K hK => ?_)
        go_simp
        refine (sumNil_any _ _ _ _ w9 hM9.bytes).mono ?_
        rintro e w10 ⟨he, hX10⟩
        rw [hz2.out] at he
        subst he
        have hS10 : Below w4.heap.size w4 w10 := hS9.trans (hX10.mono hS9.size)
        refine hK _ _ hS10 ?_
        clear hK K
        try simp only [List.getElem_toArray, List.getElem_cons_succ, List.getElem_cons_zero, Act.put, List.setIfInBounds_toArray, List.set]
        refine wpAnyH_take (i := 7) (v := .bool true) rfl (by kernel_rfl) (by kernel_rfl) (by kernel_rfl) (fun _ _ _ h => h) (Or.inl ⟨by rfl, ?_⟩) hS10 ?_
        · intro w _; go_simp
        try simp only [List.getElem_toArray, List.getElem_cons_succ, List.getElem_cons_zero, Act.put, List.setIfInBounds_toArray, List.set]
        refine wpAnyH_take (i := 8) (v := .bool true) rfl (by kernel_rfl) (by kernel_rfl) (by kernel_rfl) (fun _ _ _ h => h) (Or.inl ⟨by rfl, ?_⟩) hS10 ?_
        · intro w _; go_simp
        try simp only [List.getElem_toArray, List.getElem_cons_succ, List.getElem_cons_zero, Act.put, List.setIfInBounds_toArray, List.set]
        refine wpAnyH_done (by kernel_rfl) ?_ _
        go_wp2
        go_ret
        exact ⟨rfl, hbW.trans (hS10.mono hbW.size)⟩
    · refine wp_make4 w6 rfl ?_
      intro gm w7 hgm hX7 hM7
      have hS7 : Below w4.heap.size w4 w7 := hS6.trans (hX7.mono hS6.size)
      have hO7 := hO6.keep hX7
      have hN7 : Value.ownBlock (.slice p6 len c6) ≠ some gm := fun e => by have := (hO6.own.lt gm e).2; omega
      refine hK _ _ hS7 ?_
      clear hK K
      try simp only [List.getElem_toArray, List.getElem_cons_succ, List.getElem_cons_zero, Act.put, List.setIfInBounds_toArray, List.set]
      refine wpAnyH_one 3 _ rfl (by kernel_rfl) (by rfl) (fun K hK => ?_)
      refine wp_join w4 w7 _ _ rfl _ _ _ rfl hO7 _ (some ⟨g4, 0, none⟩) 4 4 (le4 s) rfl (hT4.below hS7) L HL.out (by have := HL.out; omega) ?_
      intro v8 w8 hO8 hX8
      have hS8 : Below w4.heap.size w4 w8 := hO8.below
      obtain ⟨p8, c8, rfl, hP8⟩ := hO8.bytes
      have hM8 := hM7.beside hX8 hN7
      refine hK _ _ hS8 ?_
      clear hK K
      try simp only [List.getElem_toArray, List.getElem_cons_succ, List.getElem_cons_zero, Act.put, List.setIfInBounds_toArray, List.set]
      refine wpAnyH_one 4 _ rfl (by kernel_rfl) (by rfl) (fun K hK => ?_)
      go_simp
      refine (sumNil_any _ _ _ _ w8 hP8).mono ?_
      rintro e w9 ⟨he, hX9⟩
      rw [hz1.out] at he
      subst he
      have hS9 : Below w4.heap.size w4 w9 := hS8.trans (hX9.mono hS8.size)
      have hM9 := hM8.keep hX9
      refine hK _ _ hS9 ?_
      clear hK K
      try simp only [List.getElem_toArray, List.getElem_cons_succ, List.getElem_cons_zero, Act.put, List.setIfInBounds_toArray, List.set]
      refine wpAnyH_one 6 _ rfl (by kernel_rfl) (by rfl) (fun K hK => ?_)
      go_simp
      refine (sumNil_any _ _ _ _ w9 hM9.bytes).mono ?_
      rintro e w10 ⟨he, hX10⟩
      rw [hz2.out] at he
      subst he
      have hS10 : Below w4.heap.size w4 w10 := hS9.trans (hX10.mono hS9.size)
      refine hK _ _ hS10 ?_
      clear hK K
      try simp only [List.getElem_toArray, List.getElem_cons_succ, List.getElem_cons_zero, Act.put, List.setIfInBounds_toArray, List.set]
      refine wpAnyH_take (i := 7) (v := .bool true) rfl (by kernel_rfl) (by kernel_rfl) (by kernel_rfl) (fun _ _ _ h => h) (Or.inl ⟨by rfl, ?_⟩) hS10 ?_
      · intro w _; go_simp
      try simp only [List.getElem_toArray, List.getElem_cons_succ, List.getElem_cons_zero, Act.put, List.setIfInBounds_toArray, List.set]
      refine wpAnyH_take (i := 8) (v := .bool true) rfl (by kernel_rfl) (by kernel_rfl) (by kernel_rfl) (fun _ _ _ h => h) (Or.inl ⟨by rfl, ?_⟩) hS10 ?_
      · intro w _; go_simp
      try simp only [List.getElem_toArray, List.getElem_cons_succ, List.getElem_cons_zero, Act.put, List.setIfInBounds_toArray, List.set]
      refine wpAnyH_done (by kernel_rfl) ?_ _
      go_wp2
      go_ret
      exact ⟨rfl, hbW.trans (hS10.mono hbW.size)⟩
  · refine wp_make4 w5 rfl ?_
    intro gm w6 hgm hX6 hM6
    have hS6 : Below w4.heap.size w4 w6 := hS5.trans (hX6.mono hS5.size)
    refine hK _ _ hS6 ?_
    clear hK K
    try simp only [List.getElem_toArray, List.getElem_cons_succ, List.getElem_cons_zero, Act.put, List.setIfInBounds_toArray, List.set]
    refine wpAnyH_one 1 _ rfl (by kernel_rfl) (by rfl) (fun K hK => ?_)
    refine wp_join w4 w6 (.const (.slice none 0 0)) _ rfl (.slice none 0 0) 0 [] rfl (Own.start hS6) _ bp len cap bs rfl (hB4.below hS6) len (by omega) (by omega) ?_
    intro v7 w7 hO7 hX7
    have hS7 : Below w4.heap.size w4 w7 := hO7.below
    obtain ⟨p7, c7, rfl, hP7⟩ := hO7.bytes
    have hM7 := hM6.beside hX7 (by simp [Value.ownBlock])
    have hN7 : Value.ownBlock (.slice p7 len c7) ≠ some gm := (hX7.2 gm hM6.lt (by simp [Value.ownBlock])).2
    refine hK _ _ hS7 ?_
    clear hK K
    try simp only [List.getElem_toArray, List.getElem_cons_succ, List.getElem_cons_zero, Act.put, List.setIfInBounds_toArray, List.set]
    refine wpAnyH_one 3 _ rfl (by kernel_rfl) (by rfl) (fun K hK => ?_)
    refine wp_join w4 w7 _ _ rfl _ _ _ rfl hO7 _ (some ⟨g4, 0, none⟩) 4 4 (le4 s) rfl (hT4.below hS7) L HL.out (by have := HL.out; omega) ?_
    intro v8 w8 hO8 hX8
    have hS8 : Below w4.heap.size w4 w8 := hO8.below
    obtain ⟨p8, c8, rfl, hP8⟩ := hO8.bytes
    have hM8 := hM7.beside hX8 hN7
    refine hK _ _ hS8 ?_
    clear hK K
    try simp only [List.getElem_toArray, List.getElem_cons_succ, List.getElem_cons_zero, Act.put, List.setIfInBounds_toArray, List.set]
    refine wpAnyH_one 4 _ rfl (by kernel_rfl) (by rfl) (fun K hK => ?_)
    go_simp
    refine (sumNil_any _ _ _ _ w8 hP8).mono ?_
    rintro e w9 ⟨he, hX9⟩
    rw [hz1.out] at he
    subst he
    have hS9 : Below w4.heap.size w4 w9 := hS8.trans (hX9.mono hS8.size)
    have hM9 := hM8.keep hX9
    refine hK _ _ hS9 ?_
    clear hK K
    try simp only [List.getElem_toArray, List.getElem_cons_succ, List.getElem_cons_zero, Act.put, List.setIfInBounds_toArray, List.set]
    refine wpAnyH_one 6 _ rfl (by kernel_rfl) (by rfl) (fun K hK => ?_)
    go_simp
    refine (sumNil_any _ _ _ _ w9 hM9.bytes).mono ?_
    rintro e w10 ⟨he, hX10⟩
    rw [hz2.out] at he
    subst he
    have hS10 : Below w4.heap.size w4 w10 := hS9.trans (hX10.mono hS9.size)
    refine hK _ _ hS10 ?_
    clear hK K
    try simp only [List.getElem_toArray, List.getElem_cons_succ, List.getElem_cons_zero, Act.put, List.setIfInBounds_toArray, List.set]
    refine wpAnyH_take (i := 7) (v := .bool true) rfl (by kernel_rfl) (by kernel_rfl) (by kernel_rfl) (fun _ _ _ h => h) (Or.inl ⟨by rfl, ?_⟩) hS10 ?_
    · intro w _; go_simp
    try simp only [List.getElem_toArray, List.getElem_cons_succ, List.getElem_cons_zero, Act.put, List.setIfInBounds_toArray, List.set]
    refine wpAnyH_take (i := 8) (v := .bool true) rfl (by kernel_rfl) (by kernel_rfl) (by kernel_rfl) (fun _ _ _ h => h) (Or.inl ⟨by rfl, ?_⟩) hS10 ?_
    · intro w _; go_simp
    try simp only [List.getElem_toArray, List.getElem_cons_succ, List.getElem_cons_zero, Act.put, List.setIfInBounds_toArray, List.set]
    refine wpAnyH_done (by kernel_rfl) ?_ _
    go_wp2
    go_ret
    exact ⟨rfl, hbW.trans (hS10.mono hbW.size)⟩
end Go.Proofs.Ytmbhfmipmadjpaa
