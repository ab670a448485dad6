/-
  Package prints: an entry, plain and as cells; home, right, has.
-/
import Derived.Test.YtopjhgpgompenaaGreatDoorBkNil
import Derived.Test.YtopjhgpgompenaaGreatDoorBkOwnX
import Derived.Test.YtopjhgpgompenaaGreatDoorRxBook
set_option linter.unusedSimpArgs false
set_option linter.unusedVariables false
namespace Go.Proofs.YtopjhgpgompenaaGreatDoor
open Go.RowKit Sh Go.Maps Go.Extern.Stop Go.Stop Go.Extern

theorem cu8P (c : UInt8) : cu8 c = .int .u8 (c.toNat : Int) := by rw [cu8, bz_eq]
structure Ent where
  dg : List UInt8
  slot : Nat
  refs : Nat
structure EntOk (e : Ent) : Prop where
  dg : e.dg.length = 32
  slot : e.slot < 256
  refs : e.refs ≤ 15
def noE : Ent := ⟨List.replicate 32 0, 0, 0⟩
def toldE (p : List UInt8) : Ent := ⟨p.take 32, (at8 p 32).toNat, min (at8 p 33).toNat 15⟩
def pgE (e : Ent) : List UInt8 := if e.refs = 0 then List.replicate 64 0 else e.dg ++ (UInt8.ofNat e.slot :: UInt8.ofNat e.refs :: List.replicate 30 0)
def normE (e : Ent) : Ent := if e.refs = 0 then noE else e
theorem toldE_ok {p : List UInt8} (hp : p.length = 64) : EntOk (toldE p) := ⟨by simp [toldE, hp], by show (at8 p 32).toNat < 256; exact UInt8.toNat_lt _, Nat.min_le_right _ _⟩
theorem pgE_len {e : Ent} (h : EntOk e) : (pgE e).length = 64 := by
  unfold pgE
  split
  · simp
  · simp [h.dg]
theorem told_zeroE : toldE (List.replicate 64 0) = noE := by
  have h : (toldE (List.replicate 64 0)).dg = noE.dg := by decide
  have h1 : (toldE (List.replicate 64 0)).slot = noE.slot := by decide
  have h2 : (toldE (List.replicate 64 0)).refs = noE.refs := by decide
  cases hh : toldE (List.replicate 64 0)
  rw [hh] at h h1 h2
  simp only at h h1 h2
  rw [h, h1, h2]
theorem told_pgE {e : Ent} (h : EntOk e) : toldE (pgE e) = normE e := by
  unfold pgE normE
  by_cases e0 : e.refs = 0
  · rw [if_pos e0, if_pos e0]; first | exact told_zeroE | done
  · rw [if_neg e0, if_neg e0]
    have hl := h.dg; have hs := h.slot; have hr := h.refs
    have a1 : at8 (e.dg ++ (UInt8.ofNat e.slot :: UInt8.ofNat e.refs :: List.replicate 30 0)) 32 = UInt8.ofNat e.slot := by
      unfold at8; rw [List.getD_eq_getElem?_getD, List.getElem?_append_right (by omega), hl]
      first | done | simp
    have a2 : at8 (e.dg ++ (UInt8.ofNat e.slot :: UInt8.ofNat e.refs :: List.replicate 30 0)) 33 = UInt8.ofNat e.refs := by
      unfold at8; rw [List.getD_eq_getElem?_getD, List.getElem?_append_right (by omega), hl]; rfl
    unfold toldE
    rw [a1, a2, List.take_left' hl, UInt8.toNat_ofNat', UInt8.toNat_ofNat', Nat.mod_eq_of_lt (by omega), Nat.mod_eq_of_lt (by omega), Nat.min_eq_left hr]
/-! In memory. -/
def entC (e : Ent) : List Value := e.dg.map cu8 ++ [.int .i64 (e.slot : Nat), .int .i64 (e.refs : Nat)]
def entV (e : Ent) : Value := .agg (entC e).toArray
theorem entC_len {e : Ent} (h : e.dg.length = 32) : (entC e).length = 34 := by simp [entC, h]
theorem entC_one (e : Ent) : ∀ v ∈ entC e, v.oneCell' = true := fun v hv => by
  rcases List.mem_append.1 hv with h | h
  · obtain ⟨c, _, rfl⟩ := List.mem_map.1 h; rfl
  · simp only [List.mem_cons, List.not_mem_nil, or_false] at h
    rcases h with rfl | rfl <;> rfl
theorem infoEnt : (Tryz.prog.info? 73).map (·.size) = some 34 := by kernel_rfl
theorem info32 : (Tryz.prog.info? 71).map (·.size) = some 32 := by kernel_rfl
theorem allocEnt (w : World) : (Instr.alloc 73 true (.tuple #[])).run Tryz.prog w = .ok (.pointer (some ⟨w.heap.size, 0, none⟩)) (w.alloc (.cells (entC noE).toArray 73)) := by kernel_rfl
theorem builtEnt0 : Tryz.prog.built 73 [] = some (entC noE).toArray := by kernel_rfl
theorem fill_ent (cells : Array Value) (hc : cells.size = 34) (a b : Value) (ha : a.cells = #[a]) (hb : b.cells = #[b]) (p : List Value) (hp : p.length = 32) (places : Nat → Option (Nat × Nat)) (h0 : places 0 = some (0, 32)) (h1 : places 1 = some (32, 1)) (h2 : places 2 = some (33, 1)) :
    Instr.fill places cells [(0, .agg p.toArray), (1, a), (2, b)] = some (p ++ [a, b]).toArray := by
  have e1 : (Value.agg p.toArray).cells = p.toArray := rfl
  simp only [Instr.fill, h0, h1, h2, ha, hb, e1]
  have s1 : ∀ (x : Value) (k : Nat) (cs : Array Value), (#[x] : Array Value).zipIdx.foldl (fun cs x => match x with | (c, j) => cs.setIfInBounds (k + j) c) cs = cs.setIfInBounds k x := fun x k cs => by
    show cs.setIfInBounds (k + 0) x = _
    rw [Nat.add_zero]
  have hfold : (p.toArray.zipIdx.foldl (fun cs x => match x with | (c, j) => cs.setIfInBounds (0 + j) c) cells).size = 34 ∧ ∀ k, (p.toArray.zipIdx.foldl (fun cs x => match x with | (c, j) => cs.setIfInBounds (0 + j) c) cells)[k]? = if k < 32 then p[k]? else cells[k]? := by
    rw [← Array.foldl_toList, Array.toList_zipIdx]
    obtain ⟨hs, hk⟩ := Great.foldl_set 0 p 0 cells
    refine ⟨by rw [hs, hc], fun k => (hk k).trans ?_⟩
    by_cases hk32 : k < 32
    · rw [if_pos hk32, if_pos (by omega)]
      congr 1
    · rw [if_neg hk32, if_neg (by omega)]
  rw [if_neg (by simp [hc, hp])]
  obtain ⟨hs, hk⟩ := hfold
  rw [if_neg (by rw [hs]; simp), s1, if_neg (by rw [Array.size_setIfInBounds, hs]; simp), s1]
  congr 1
  apply Array.ext_getElem?
  intro k
  rw [Array.getElem?_setIfInBounds, Array.getElem?_setIfInBounds, Array.size_setIfInBounds, hs, hk]
  by_cases k33 : 33 = k
  · subst k33; rw [if_pos rfl, if_pos (by omega), List.getElem?_toArray, List.getElem?_append_right (by omega), hp]; rfl
  · rw [if_neg k33]
    by_cases k32 : 32 = k
    · subst k32; rw [if_pos rfl, if_pos (by omega), List.getElem?_toArray, List.getElem?_append_right (by omega), hp]; rfl
    · rw [if_neg k32]
      by_cases hlt : k < 32
      · rw [if_pos hlt, List.getElem?_toArray, List.getElem?_append_left (by omega)]
      · rw [if_neg hlt, Array.getElem?_eq_none (xs := cells) (by omega), List.getElem?_toArray, List.getElem?_eq_none (by simp [hp]; omega)]
theorem built_ent (p : List Value) (hp : p.length = 32) (s r : Int) : Tryz.prog.built 73 [(0, .agg p.toArray), (1, .int .i64 s), (2, .int .i64 r)] = some (p ++ [Value.int .i64 s, Value.int .i64 r] : List Value).toArray := by
  have hu : (Tryz.prog.underlying 73).bind (fun d => match d with | .struct fs => fs.toList.mapM (fun f => (Tryz.prog.info? f.type).map fun i => (f.offset, i.size)) | _ => none) = some [(0, 32), (32, 1), (33, 1)] := by kernel_rfl
  have hin : (Tryz.prog.info? 73).map (fun i => (i.zero, i.size)) = some (some (.agg (entC noE).toArray), 34) := by kernel_rfl
  obtain ⟨ti, hti, hz⟩ := Option.map_eq_some_iff.1 hin
  simp only [Prod.mk.injEq] at hz
  unfold Program.built
  rw [hti, Tryz.underlying73]
  rw [Tryz.underlying73] at hu
  simp only [Option.bind_some] at hu
  simp only [hz.1, hu]
  exact fill_ent _ (by simp [Value.cells, entC, noE]) (.int .i64 s) (.int .i64 r) rfl rfl _ hp _ rfl rfl rfl
theorem ent_box {w : World} {x : Nat} {e : Ent} (hx : w.heap[x]? = some (.cells (entC e).toArray 73 (0, 0))) (hl : e.dg.length = 32) : w.cell? ⟨x, 32, none⟩ = some (.int .i64 (e.slot : Nat)) ∧ w.cell? ⟨x, 33, none⟩ = some (.int .i64 (e.refs : Nat)) := by
  constructor <;> rw [cell_of_row w x _ _ _ _ hx, List.getElem?_toArray, entC, List.getElem?_append_right (by simp [hl])] <;> simp [hl]
theorem ent_digest {w : World} {x : Nat} {e : Ent} (hx : w.heap[x]? = some (.cells (entC e).toArray 73 (0, 0))) (j : Nat) (v : Value) (hj : (e.dg.map cu8)[j]? = some v) : w.cell? ⟨x, 0 + j, none⟩ = some v := by
  have hl := (List.getElem?_eq_some_iff.1 hj).1
  rw [Nat.zero_add, cell_of_row w x _ _ _ _ hx, List.getElem?_toArray, entC, List.getElem?_append_left hl]
  exact hj
def homeD (d : List UInt8) : Nat := (at8 d 0).toNat + 256 * (at8 d 1).toNat
def digV (d : List UInt8) : Value := .agg (d.map cu8).toArray
section
variable {w : World}
theorem or_bytes (a b : Nat) (ha : a < 256) (hb : b < 256) : a ||| (b * 256) = a + 256 * b := by
  have h := Nat.two_pow_add_eq_or_of_lt (i := 8) (b := a) (by simpa using ha) b
  have : (2 : Nat) ^ 8 = 256 := rfl
  rw [this] at h
  rw [Nat.or_comm, Nat.mul_comm b 256, ← h]; omega
end
end Go.Proofs.YtopjhgpgompenaaGreatDoor
