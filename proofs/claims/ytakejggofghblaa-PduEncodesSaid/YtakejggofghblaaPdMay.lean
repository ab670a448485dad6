/-
  pdu.May, the reference's, the law's short; a PDU in a box.
-/
import Derived.Test.YtakejggofghblaaPdConc
set_option linter.unusedSimpArgs false
set_option linter.unusedVariables false
namespace Go.Proofs.Ytakejggofghblaa
open Go.RowKit Sh Cr Pd

/-- A PDU in a block of its own. -/
def BxP (W : World) (g : Nat) (p : P) (av dv : Value) : Prop := W.heap[g]? = some (.cells (p.cs av dv) 28 (0, 0))
section
variable {W W' : World} {g : Nat} {p : P} {av dv : Value}
theorem BxP.cell (h : BxP W g p av dv) (i : Nat) (v : Value) (hv : (p.cs av dv)[i]? = some v) : W.cell? ⟨g, i, none⟩ = some v := by
  unfold BxP at h
  unfold World.cell?
  simp [h, hv]
theorem BxP.lt (h : BxP W g p av dv) : g < W.heap.size := (Array.getElem?_eq_some_iff.1 h).1
theorem BxP.new (w : World) : BxP (w.alloc (.cells (p.cs av dv) 28)) w.heap.size p av dv := heap_alloc_new w _
theorem BxP.keep {N : Nat} (h : BxP W g p av dv) (hb : Below N W W') (hg : g < N) : BxP W' g p av dv := (hb.block g hg).trans h
theorem BxP.free (h : BxP W g p av dv) (i : Nat) : W.frozen? ⟨g, i, none⟩ = false := by unfold BxP at h; simp [World.frozen?, h]
end
theorem infoPdu : (Try.prog.info? 28).map (·.size) = some 16 := by kernel_rfl
theorem load_pdu {w : World} {g : Nat} {cs : Array Value} (h : w.heap[g]? = some (.cells cs 28 (0, 0))) (hz : Hid (cs.size = 16)) : (Instr.loadAt 28 (.pointer (some ⟨g, 0, none⟩))).run Try.prog w = .ok (.agg cs) w :=
  run_loadVar_row w g 28 28 cs (0, 0) _ h Try.underlying28 rfl (by rw [hz.out]; exact infoPdu)
theorem Pd.P.cs_size (p : P) (av dv : Value) : Hid ((p.cs av dv).size = 16) := Lib.hid rfl
set_option maxRecDepth 100000 in
set_option maxHeartbeats 2000000 in
theorem may_raw (op : Int) (im : Bool) (f s t : Int) (ap dp : Option Addr) (al ac dl dc : Nat) (x y w0 w1 w2 w3 w4 w5 w6 : Int) (o1 : -9223372036854775808 ≤ op) (o2 : op ≤ 9223372036854775807) (ha : al ≤ 9223372036854775807) (hd : dl ≤ 9223372036854775807) (w : World) :
    Calls Try.prog 13 #[.agg #[.int .i64 op, .bool im, .int .u8 f, .int .u8 s, .int .u8 t, .slice ap al ac, .int .u64 x, .int .u32 y, .int .u32 w0, .int .u32 w1, .int .u32 w2, .int .u32 w3, .int .u32 w4, .int .u32 w5, .int .u32 w6, .slice dp dl dc]] w (SayPost (decide (0 ≤ op) && decide (op ≤ 63) && decide (al ≤ 32) && decide (al % 4 = 0) && decide (dl ≤ 256)) w) := by
  have hbel := (Below.refl w.heap.size w).alloc (Nat.le_refl _) (.cells #[.int .i64 op, .bool im, .int .u8 f, .int .u8 s, .int .u8 t, .slice ap al ac, .int .u64 x, .int .u32 y, .int .u32 w0, .int .u32 w1, .int .u32 w2, .int .u32 w3, .int .u32 w4, .int .u32 w5, .int .u32 w6, .slice dp dl dc] 28)
  obtain ⟨b, hb⟩ : ∃ b, Hid ((decide (0 ≤ op) && decide (op ≤ 63) && decide (al ≤ 32) && decide (al % 4 = 0) && decide (dl ≤ 256)) = b) := ⟨_, Lib.hid rfl⟩
  rw [hb.out]
  by_cases h0 : 0 ≤ op
  · skip
    by_cases h1 : op ≤ 63
    · skip
      by_cases h2 : al ≤ 32
      · skip
        by_cases h3 : al % 4 = 0
        · skip
          by_cases h4 : dl ≤ 256
          · skip
            obtain rfl : b = true := by rw [← hb.out]; simp [h0, h1, h2, h3, h4]
            have g0 : 0 ≤ op := by omega
            have g1 : op ≤ 63 := by omega
            have g2 : (al : Int) ≤ 32 := by omega
            have g3 : (al : Int) % 4 = 0 := by omega
            have g4 : (dl : Int) ≤ 256 := by omega
            clear hb h0 h1 h2 h3 h4
            go_enter Try.func13, Try.ntmps13
            go_wp2
            go_ret
            exact ⟨rfl, hbel⟩
          · skip
            obtain rfl : b = false := by rw [← hb.out]; simp [h0, h1, h2, h3, h4]
            have g0 : 0 ≤ op := by omega
            have g1 : op ≤ 63 := by omega
            have g2 : (al : Int) ≤ 32 := by omega
            have g3 : (al : Int) % 4 = 0 := by omega
            have g4 : decide ((dl : Int) ≤ 256) = false := by simp; omega
            clear hb h0 h1 h2 h3 h4
            go_enter Try.func13, Try.ntmps13
            go_wp2
            go_ret
            exact ⟨rfl, hbel⟩
        · skip
          obtain rfl : b = false := by rw [← hb.out]; simp [h0, h1, h2, h3]
          have g0 : 0 ≤ op := by omega
          have g1 : op ≤ 63 := by omega
          have g2 : (al : Int) ≤ 32 := by omega
          have g3 : ((al : Int) % 4 == 0) = false := by simp; omega
          clear hb h0 h1 h2 h3
          go_enter Try.func13, Try.ntmps13
          go_wp2
          go_ret
          exact ⟨rfl, hbel⟩
      · skip
        obtain rfl : b = false := by rw [← hb.out]; simp [h0, h1, h2]
        have g0 : 0 ≤ op := by omega
        have g1 : op ≤ 63 := by omega
        have g2 : decide ((al : Int) ≤ 32) = false := by simp; omega
        clear hb h0 h1 h2
        go_enter Try.func13, Try.ntmps13
        go_wp2
        go_ret
        exact ⟨rfl, hbel⟩
    · skip
      obtain rfl : b = false := by rw [← hb.out]; simp [h0, h1]
      have g0 : 0 ≤ op := by omega
      have g1 : decide (op ≤ 63) = false := by simp; omega
      clear hb h0 h1
      go_enter Try.func13, Try.ntmps13
      go_wp2
      go_ret
      exact ⟨rfl, hbel⟩
  · skip
    obtain rfl : b = false := by rw [← hb.out]; simp [h0]
    have g0 : decide (0 ≤ op) = false := by simp; omega
    clear hb h0
    go_enter Try.func13, Try.ntmps13
    go_wp2
    go_ret
    exact ⟨rfl, hbel⟩
set_option maxRecDepth 100000 in
set_option maxHeartbeats 2000000 in
theorem rmay_raw (op : Int) (im : Bool) (f s t : Int) (ap dp : Option Addr) (al ac dl dc : Nat) (x y w0 w1 w2 w3 w4 w5 w6 : Int) (o1 : -9223372036854775808 ≤ op) (o2 : op ≤ 9223372036854775807) (ha : al ≤ 9223372036854775807) (hd : dl ≤ 9223372036854775807) (w : World) :
    Calls Try.prog 14 #[.agg #[.int .i64 op, .bool im, .int .u8 f, .int .u8 s, .int .u8 t, .slice ap al ac, .int .u64 x, .int .u32 y, .int .u32 w0, .int .u32 w1, .int .u32 w2, .int .u32 w3, .int .u32 w4, .int .u32 w5, .int .u32 w6, .slice dp dl dc]] w (SayPost (decide (0 ≤ op) && decide (op ≤ 63) && decide (al ≤ 32) && decide (al % 4 = 0) && decide (dl ≤ 256)) w) := by
  have hbel := (Below.refl w.heap.size w).alloc (Nat.le_refl _) (.cells #[.int .i64 op, .bool im, .int .u8 f, .int .u8 s, .int .u8 t, .slice ap al ac, .int .u64 x, .int .u32 y, .int .u32 w0, .int .u32 w1, .int .u32 w2, .int .u32 w3, .int .u32 w4, .int .u32 w5, .int .u32 w6, .slice dp dl dc] 28)
  obtain ⟨b, hb⟩ : ∃ b, Hid ((decide (0 ≤ op) && decide (op ≤ 63) && decide (al ≤ 32) && decide (al % 4 = 0) && decide (dl ≤ 256)) = b) := ⟨_, Lib.hid rfl⟩
  rw [hb.out]
  by_cases h0 : 0 ≤ op
  · skip
    by_cases h1 : op ≤ 63
    · skip
      by_cases h2 : al ≤ 32
      · skip
        by_cases h3 : al % 4 = 0
        · skip
          by_cases h4 : dl ≤ 256
          · skip
            obtain rfl : b = true := by rw [← hb.out]; simp [h0, h1, h2, h3, h4]
            have g0 : 0 ≤ op := by omega
            have g1 : op ≤ 63 := by omega
            have g2 : (al : Int) ≤ 32 := by omega
            have g3 : (al : Int) % 4 = 0 := by omega
            have g4 : (dl : Int) ≤ 256 := by omega
            clear hb h0 h1 h2 h3 h4
            go_enter Try.func14, Try.ntmps14
            go_wp2
            go_ret
            exact ⟨rfl, hbel⟩
          · skip
            obtain rfl : b = false := by rw [← hb.out]; simp [h0, h1, h2, h3, h4]
            have g0 : 0 ≤ op := by omega
            have g1 : op ≤ 63 := by omega
            have g2 : (al : Int) ≤ 32 := by omega
            have g3 : (al : Int) % 4 = 0 := by omega
            have g4 : decide ((dl : Int) ≤ 256) = false := by simp; omega
            clear hb h0 h1 h2 h3 h4
            go_enter Try.func14, Try.ntmps14
            go_wp2
            go_ret
            exact ⟨rfl, hbel⟩
        · skip
          obtain rfl : b = false := by rw [← hb.out]; simp [h0, h1, h2, h3]
          have g0 : 0 ≤ op := by omega
          have g1 : op ≤ 63 := by omega
          have g2 : (al : Int) ≤ 32 := by omega
          have g3 : ((al : Int) % 4 == 0) = false := by simp; omega
          clear hb h0 h1 h2 h3
          go_enter Try.func14, Try.ntmps14
          go_wp2
          go_ret
          exact ⟨rfl, hbel⟩
      · skip
        obtain rfl : b = false := by rw [← hb.out]; simp [h0, h1, h2]
        have g0 : 0 ≤ op := by omega
        have g1 : op ≤ 63 := by omega
        have g2 : decide ((al : Int) ≤ 32) = false := by simp; omega
        clear hb h0 h1 h2
        go_enter Try.func14, Try.ntmps14
        go_wp2
        go_ret
        exact ⟨rfl, hbel⟩
    · skip
      obtain rfl : b = false := by rw [← hb.out]; simp [h0, h1]
      have g0 : 0 ≤ op := by omega
      have g1 : decide (op ≤ 63) = false := by simp; omega
      clear hb h0 h1
      go_enter Try.func14, Try.ntmps14
      go_wp2
      go_ret
      exact ⟨rfl, hbel⟩
  · skip
    obtain rfl : b = false := by rw [← hb.out]; simp [h0]
    have g0 : decide (0 ≤ op) = false := by simp; omega
    clear hb h0
    go_enter Try.func14, Try.ntmps14
    go_wp2
    go_ret
    exact ⟨rfl, hbel⟩
set_option maxRecDepth 100000 in
set_option maxHeartbeats 2000000 in
theorem short_raw (op : Int) (im : Bool) (f s t : Int) (ap dp : Option Addr) (al ac dl dc : Nat) (x y w0 w1 w2 w3 w4 w5 w6 : Int) (o1 : -9223372036854775808 ≤ op) (o2 : op ≤ 9223372036854775807) (ha : al ≤ 9223372036854775807) (hd : dl ≤ 9223372036854775807) (w : World) :
    Calls Try.prog 10 #[.agg #[.int .i64 op, .bool im, .int .u8 f, .int .u8 s, .int .u8 t, .slice ap al ac, .int .u64 x, .int .u32 y, .int .u32 w0, .int .u32 w1, .int .u32 w2, .int .u32 w3, .int .u32 w4, .int .u32 w5, .int .u32 w6, .slice dp dl dc]] w (SayPost (decide (al ≤ 1000) && decide (dl ≤ 1000)) w) := by
  have hbel := (Below.refl w.heap.size w).alloc (Nat.le_refl _) (.cells #[.int .i64 op, .bool im, .int .u8 f, .int .u8 s, .int .u8 t, .slice ap al ac, .int .u64 x, .int .u32 y, .int .u32 w0, .int .u32 w1, .int .u32 w2, .int .u32 w3, .int .u32 w4, .int .u32 w5, .int .u32 w6, .slice dp dl dc] 28)
  obtain ⟨b, hb⟩ : ∃ b, Hid ((decide (al ≤ 1000) && decide (dl ≤ 1000)) = b) := ⟨_, Lib.hid rfl⟩
  rw [hb.out]
  by_cases h0 : al ≤ 1000
  · skip
    by_cases h1 : dl ≤ 1000
    · skip
      obtain rfl : b = true := by rw [← hb.out]; simp [h0, h1]
      have g0 : (al : Int) ≤ 1000 := by omega
      have g1 : (dl : Int) ≤ 1000 := by omega
      clear hb h0 h1
      go_enter Try.func10, Try.ntmps10
      go_wp2
      go_ret
      exact ⟨rfl, hbel⟩
    · skip
      obtain rfl : b = false := by rw [← hb.out]; simp [h0, h1]
      have g0 : (al : Int) ≤ 1000 := by omega
      have g1 : decide ((dl : Int) ≤ 1000) = false := by simp; omega
      clear hb h0 h1
      go_enter Try.func10, Try.ntmps10
      go_wp2
      go_ret
      exact ⟨rfl, hbel⟩
  · skip
    obtain rfl : b = false := by rw [← hb.out]; simp [h0]
    have g0 : decide ((al : Int) ≤ 1000) = false := by simp; omega
    clear hb h0
    go_enter Try.func10, Try.ntmps10
    go_wp2
    go_ret
    exact ⟨rfl, hbel⟩
def shortB (p : P) : Bool := decide (p.ahs.length ≤ 1000) && decide (p.data.length ≤ 1000)
theorem may_any (p : P) (ap dp : Option Addr) (ac dc : Nat) (ha : p.ahs.length ≤ 9223372036854775807) (hd : p.data.length ≤ 9223372036854775807) (hk : p.Ok) (w : World) :
    Calls Try.prog 13 #[.agg (p.cs (.slice ap p.ahs.length ac) (.slice dp p.data.length dc))] w (SayPost (mayB p) w) :=
  may_raw p.op p.imm (bz p.fl) (bz p.s0) (bz p.s1) ap dp p.ahs.length ac p.data.length dc p.lun p.tag (p.w 0) (p.w 1) (p.w 2) (p.w 3) (p.w 4) (p.w 5) (p.w 6) hk.o1 hk.o2 ha hd w
theorem rmay_any (p : P) (ap dp : Option Addr) (ac dc : Nat) (ha : p.ahs.length ≤ 9223372036854775807) (hd : p.data.length ≤ 9223372036854775807) (hk : p.Ok) (w : World) :
    Calls Try.prog 14 #[.agg (p.cs (.slice ap p.ahs.length ac) (.slice dp p.data.length dc))] w (SayPost (mayB p) w) :=
  rmay_raw p.op p.imm (bz p.fl) (bz p.s0) (bz p.s1) ap dp p.ahs.length ac p.data.length dc p.lun p.tag (p.w 0) (p.w 1) (p.w 2) (p.w 3) (p.w 4) (p.w 5) (p.w 6) hk.o1 hk.o2 ha hd w
theorem short_any (p : P) (ap dp : Option Addr) (ac dc : Nat) (ha : p.ahs.length ≤ 9223372036854775807) (hd : p.data.length ≤ 9223372036854775807) (hk : p.Ok) (w : World) :
    Calls Try.prog 10 #[.agg (p.cs (.slice ap p.ahs.length ac) (.slice dp p.data.length dc))] w (SayPost (shortB p) w) :=
  short_raw p.op p.imm (bz p.fl) (bz p.s0) (bz p.s1) ap dp p.ahs.length ac p.data.length dc p.lun p.tag (p.w 0) (p.w 1) (p.w 2) (p.w 3) (p.w 4) (p.w 5) (p.w 6) hk.o1 hk.o2 ha hd w
end Go.Proofs.Ytakejggofghblaa
