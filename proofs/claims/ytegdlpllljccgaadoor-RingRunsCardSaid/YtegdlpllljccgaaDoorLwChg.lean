/-
  The law's own: few, changes, told, mark.
-/
import Derived.Test.YtegdlpllljccgaaDoorLwEq
import Derived.Test.YtegdlpllljccgaaDoorPrOpen
import Derived.Test.YtegdlpllljccgaaDoorJRg
set_option linter.unusedSimpArgs false
set_option linter.unusedVariables false
namespace Go.Proofs.YtegdlpllljccgaaDoor
open Go.RowKit Sh Go.Extern.Stop Go.Stop Go.Extern

def page3 (a b c : UInt8) : List Value := cu8 a :: cu8 b :: cu8 c :: List.replicate 61 (cu8 0)
theorem built_three (a b c : UInt8) : Tryd.prog.built 63 [(0, cu8 a), (1, cu8 b), (2, cu8 c)] = some (page3 a b c).toArray := by kernel_rfl
theorem page3_ok (a b c : UInt8) : IsPage (page3 a b c) := ⟨by simp [page3], fun v hv => by
  simp only [page3, List.mem_cons, List.mem_replicate] at hv
  rcases hv with rfl | rfl | rfl | ⟨_, rfl⟩ <;> rfl⟩
/-- '[]T{x}' of a value of some cells. -/
theorem wpList_row1 {ops : Array Oper} {Q : Exit → Act → World → Prop} {a : Act} {w : World} {o : Oper} {rest : List Oper} (ST T : TypeId) (x : Operand) (hgd : o.guard = none) (ho : o.op = .buildSlice ST 1 #[(0, x)]) (c : List Value) (n : Nat) (z : List Value) (bytes : Nat)
    (hST : Tryd.prog.underlying ST = some (.slice T)) (hinfo : (Tryd.prog.info? T).map (fun i => (i.zero, i.size, i.bytes)) = some (some (.agg z.toArray), n, bytes)) (hn : 0 < n) (hn2 : n ≤ 100) (hz : z.length = n) (hc : c.length = n) (hx : a.eval x = .agg c.toArray)
    (h : wpList Tryd.prog ops Q rest (a.put o.dst (.slice (some ⟨w.heap.size, 0, none⟩) 1 1)) (w.alloc (.cells c.toArray T))) : wpList Tryd.prog ops Q (o :: rest) a w := by
  refine wpList_plain hgd fun K hK => ?_
  obtain ⟨i, hi, hzz⟩ := Option.map_eq_some_iff.1 hinfo
  simp only [Prod.mk.injEq] at hzz
  obtain ⟨hz0, hs, hb⟩ := hzz
  refine wp_buildSlice (P := Tryd.prog) ST T 1 _ ho c.toArray i _ hST hi hz0 (by rw [hs]; omega) (by rw [hs]; omega) ?_ (hK _ _ h)
  rw [hs]
  have hl : ((#[(0, x)] : Array (Nat × Operand)).map fun (i, x) => (i, a.eval x)).toList = [(0, .agg c.toArray)] := by simp [hx]
  rw [hl]
  have hf := Great.fill_whole (s := n) hn [.agg c.toArray] ((Array.range (1 * n)).map ((Value.agg z.toArray).cells[· % (Value.agg z.toArray).cells.size]!)) (fun v hv => by
    obtain rfl := List.mem_singleton.1 hv
    show c.toArray.size = n
    rw [List.size_toArray]; exact hc) (by simp)
  simpa [Value.cells] using hf
theorem infoRChg : (Tryd.prog.info? 106).map (fun i => (i.zero, i.size, i.bytes)) = some (some (.agg zChg.toArray), 65, 72) := by kernel_rfl
theorem infoRChg65 : (Tryd.prog.info? 106).map (·.size) = some 65 := by kernel_rfl
theorem built_rchg (a : Int) (p : List Value) (hp : IsPage p) : Tryd.prog.built 106 [(0, .int .i64 a), (1, .agg p.toArray)] = some (.int .i64 a :: p).toArray := by
  have hu : (Tryd.prog.underlying 106).bind (fun d => match d with | .struct fs => fs.toList.mapM (fun f => (Tryd.prog.info? f.type).map fun i => (f.offset, i.size)) | _ => none) = some [(0, 1), (1, 64)] := by kernel_rfl
  obtain ⟨ti, hti, hz⟩ := Option.map_eq_some_iff.1 infoRChg
  simp only [Prod.mk.injEq] at hz
  unfold Program.built
  rw [hti, Tryd.underlying106]
  rw [Tryd.underlying106] at hu
  simp only [Option.bind_some] at hu
  simp only [hz.1, hu]
  exact fill_two _ (by simp [Value.cells, zChg, zeroPage]) (.int .i64 a) rfl p hp.1 _ rfl rfl
def rowsC (l : List Chg) : List Value := (l.map chgC).flatten
theorem rowsC_snoc (l : List Chg) (c : Chg) : rowsC (l ++ [c]) = rowsC l ++ chgC c := by simp [rowsC]
/-- Changes in a row that a call made. -/
theorem chgs_of_own {w : World} {B : Nat} {T : TypeId} {ap : Option Addr} {n cp : Nat} {l : List Chg} (hw : ∀ c ∈ l, c.what.length = 64) (hl : l.length = n) (h : w.ownsRow B T 65 (.slice ap n cp) n (rowsC l)) : Chgs w.heap.size w ap l := by
  rcases h.2 with ⟨hv, h0⟩ | ⟨g, cap, cur, hv, _, hg, _⟩
  · left; rw [h0] at hl; exact List.length_eq_zero_iff.1 hl
  · simp only [Value.slice.injEq] at hv
    obtain ⟨rfl, _, rfl⟩ := hv
    refine .inr ⟨g, rfl, (Array.getElem?_eq_some_iff.1 hg).1, fun i c hi j v hj => ?_⟩
    have h65 := chgC_len (hw c (List.mem_of_getElem? hi))
    have hj65 : j < 65 := by rw [← h65]; exact (List.getElem?_eq_some_iff.1 hj).1
    have hin : i < n := by rw [← hl]; exact (List.getElem?_eq_some_iff.1 hi).1
    rw [h.cellAt (i * 65 + j) (by have : (i + 1) * 65 ≤ n * 65 := Nat.mul_le_mul_right 65 hin
                                  omega)]
    have := flat_getM 65 (pgs := l.map chgC) (fun p hp => by obtain ⟨x, hx, rfl⟩ := List.mem_map.1 hp; exact chgC_len (hw x hx)) i (chgC c) (by rw [List.getElem?_map, hi]; rfl) j hj65
    exact this.trans hj
def OwnP (T : TypeId) (l : List Chg) (w : World) (e : Ending) (w' : World) : Prop :=
  ∃ ap cp, e = .returned (.slice ap l.length cp) ∧ w'.ownsRow w.heap.size T 65 (.slice ap l.length cp) l.length (rowsC l) ∧ Below w.heap.size w w'
/-- Behind an append to a row of the call's own. -/
theorem below_own {B : Nat} {w a b : World} {v : Value} {e : TypeId} {s n : Nat} {xs : List Value} (h : Below B w a) (hv : a.ownsRow B e s v n xs) (hg : a.grownBy b v.ownBlock) (hB : B ≤ a.heap.size) : Below B w b :=
  h.trans ⟨hg.os, hg.tape, hg.output, hg.size, fun k hk => hg.block k (by omega) (fun e => by have := hv.lt k e.symm; omega)⟩
theorem few_any (bp : Option Addr) (L cap : Nat) (hL : L ≤ 9223372036854775807) (w : World) : Calls Tryd.prog 11 #[.slice bp L cap] w fun e w' => e = .returned (.bool (decide (L ≤ 40))) ∧ w = w' := by
  have e : decide (L ≤ 40) = decide ((L : Int) ≤ 40) := by rw [Bool.eq_iff_iff, decide_eq_true_eq, decide_eq_true_eq]; omega
  rw [e]
  go_enter Tryd.func11, Tryd.ntmps11
  go_wp2
  go_ret
  exact ⟨rfl, rfl⟩
def chg1 (n X i : Nat) : Chg := ⟨X + 3 * i, UInt8.ofNat X :: UInt8.ofNat i :: UInt8.ofNat n :: List.replicate 61 0⟩
theorem chgC_chg1 (n X i : Nat) : chgC (chg1 n X i) = .int .i64 ((X + 3 * i : Nat) : Int) :: page3 (UInt8.ofNat X) (UInt8.ofNat i) (UInt8.ofNat n) := by
  simp [chgC, chg1, page3]
def chgsK (n X k : Nat) : List Chg := (List.range k).map (chg1 n X)
theorem chgsK_all (n X : Nat) : chgsK n X n = chgs n X := rfl
theorem chgsK_succ (n X k : Nat) : chgsK n X (k + 1) = chgsK n X k ++ [chg1 n X k] := by simp [chgsK, List.range_succ]
theorem chgsK_length (n X k : Nat) : (chgsK n X k).length = k := by simp [chgsK]
set_option maxRecDepth 100000 in
set_option maxHeartbeats 4000000 in
/-- changes. -/
theorem lchanges_any (n : Nat) (hn : n ≤ 100) (x : Int) (w : World) :
    Calls Tryd.prog 19 #[.int .i64 n, .int .i64 x] w (OwnP 91 (chgs n (x % 16777216).toNat) w) := by
  obtain ⟨i0, hi, hzz⟩ := Option.map_eq_some_iff.1 infoChg
  simp only [Prod.mk.injEq] at hzz
  obtain ⟨hz0, hz1, hz2⟩ := hzz
  have Hi := Lib.hid hi; have Hz0 := Lib.hid hz0; have Hz1 := Lib.hid hz1; have Hz2 := Lib.hid hz2
  clear hi hz0 hz1 hz2
  obtain ⟨X, hX⟩ : ∃ X, (x % 16777216).toNat = X := ⟨_, rfl⟩
  have hand : bits .and .i64 x 16777215 = (X : Int) := by rw [i64_and24]; omega
  have hX2 : X < 16777216 := by omega
  rw [hX]
  have Hand := Lib.hid hand
  clear hX
  have hu1 : IntKind.u8.wrap (X : Int) = bz (UInt8.ofNat X) := by have := byteU X 0; simpa using this
  have hu3 : IntKind.u8.wrap (n : Int) = bz (UInt8.ofNat n) := by have := byteU n 0; simpa using this
  go_enter Tryd.func19, Tryd.ntmps19
  go_wp2
  clear hand
  go_loopg [10, 5] n (fun gg i v wr => ∃ k ap cp, k ≤ n ∧ gg = n - k ∧ i = .int .i64 (k : Nat) ∧ v = .slice ap k cp ∧ wr.ownsRow w.heap.size 91 65 (.slice ap k cp) k (rowsC (chgsK n X k)) ∧ Below w.heap.size w wr)
  case atStart => exact ⟨0, none, 0, by omega, rfl, rfl, rfl, World.ownsRow_nil _ _ _ _, Below.refl _ _⟩
  case round =>
    obtain ⟨k, ap, cp, hk, rfl, rfl, rfl, hown, hbel⟩ := hrel
    by_cases hlt : k < n
    · have hlt' : (k : Int) < n := by omega
      have hu2 : IntKind.u8.wrap (k : Int) = bz (UInt8.ofNat k) := by have := byteU k 0; simpa using this
      have hB3 := Lib.hid (built_three (UInt8.ofNat X) (UInt8.ofNat k) (UInt8.ofNat n))
      obtain ⟨pv, Hpv⟩ : ∃ pv : List Value, Hid (pv = page3 (UInt8.ofNat X) (UInt8.ofNat k) (UInt8.ofNat n)) := ⟨_, rfl⟩
      rw [← Hpv.out] at hB3
      have hpp : IsPage pv := by rw [Hpv.out]; exact page3_ok _ _ _
      obtain ⟨cv, Hcv⟩ : ∃ cv : List Value, Hid (cv = .int .i64 ((X : Int) + 3 * (k : Int)) :: pv) := ⟨_, rfl⟩
      have hB2 := Lib.hid (built_chg ((X : Int) + 3 * (k : Int)) pv hpp)
      rw [← Hcv.out] at hB2
      have hcvl : cv.length = 65 := by rw [Hcv.out, List.length_cons, hpp.1]
      have hcve : cv = chgC (chg1 n X k) := by rw [Hcv.out, Hpv.out, chgC_chg1]; simp
      have hcone : ∀ u ∈ cv, u.oneCell' = true := by rw [hcve]; exact chgC_one _
      have hownA := hown.alloc (.cells cv.toArray 91)
      have hbA := hbel.alloc hbel.size (.cells cv.toArray 91)
      have hcells : ∀ (j : Nat) (u : Value), cv[j]? = some u → (wr.alloc (.cells cv.toArray 91)).cell? ((⟨wr.heap.size, 0, none⟩ : Addr).add j) = some u := fun j u hu => by
        have hadd : (⟨wr.heap.size, 0, none⟩ : Addr).add j = ⟨wr.heap.size, 0 + j, none⟩ := by unfold Addr.add; split <;> simp_all
        rw [hadd, Nat.zero_add, cell_of_row _ wr.heap.size j _ _ _ (heap_alloc_new wr _)]; simpa using hu
      have Hcells := Lib.hid hcells; have Hcone := Lib.hid hcone; have Hcve := Lib.hid hcve
      have hrs : rowsC (chgsK n X k) ++ cv = rowsC (chgsK n X (k + 1)) := by rw [hcve, chgsK_succ, rowsC_snoc]
      have Hrs := Lib.hid hrs
      have hsz := hbA.size
      clear hcells hcone hcve hrs hown
      go_wp2_with (first
        | (refine wpList_build_to rfl 63 _ rfl pv.toArray (Eq.trans (congrArg (Program.built _ _) (by simp [Act.eval, Act.put, cu8, hu1, hu2, hu3])) hB3.out) ?_)
        | (refine wpList_build_to rfl 91 _ rfl cv.toArray (Eq.trans (congrArg (Program.built _ _) (by simp [Act.eval, Act.put])) hB2.out) ?_)
        | (refine wpList_row1 50 91 _ rfl rfl cv 65 zChg 72 Tryd.underlying50 infoChg (by omega) (by omega) zChg_len hcvl rfl ?_)
        | (refine wpList_append_own _ rfl _ _ 50 rfl w.heap.size 91 i0 (.agg zChg.toArray) 65 72 Tryd.underlying50 Hi.out Hz0.out Hz1.out Hz2.out rfl (by decide) _ _ _ rfl hownA ⟨wr.heap.size, 0, none⟩ 1 1 cv rfl (by rw [hcvl]) Hcells.out Hcone.out (by unfold maxLen; omega) (by omega) (by omega) ?_; intro v' w4 hown4 hgr4 _))
      have hbel4 := below_own hbA hownA hgr4 hsz
      rw [Hrs.out] at hown4
      obtain ⟨ap', cp', hv'⟩ := row_form hown4
      subst hv'
      have Hown4 := Lib.hid hown4
      clear hown4 hgr4 hbA hownA Hcells Hcone hB2 hB3 hbel
      go_roundg (n - (k + 1))
      case measure => omega
      case rel => exact ⟨k + 1, ap', cp', by omega, rfl, by go_num, rfl, Hown4.out, hbel4⟩
    · obtain rfl : k = n := by omega
      go_wp2
      go_ret
      have hl := chgs_length k X
      rw [chgsK_all] at hown
      refine ⟨ap, cp, by rw [hl]; rfl, by rw [hl]; exact hown, hbel⟩
end Go.Proofs.YtegdlpllljccgaaDoor
