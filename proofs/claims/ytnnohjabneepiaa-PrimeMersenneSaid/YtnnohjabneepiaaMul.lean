/-
  The contract of natural.columns.fill: the columns of a product. The contract of natural.columns.digits: the digits of a number that is given by columns. Contracts of natural.Mul for canonical arguments.
-/
import Derived.Test.YtnnohjabneepiaaNatA
import Derived.Laws.CopyOwn
import Derived.RegionTactic
import Derived.BigRegion
namespace Go.Proofs.Ytnnohjabneepiaa
open Go.RowKit Num

def cellsC (xs : List Nat) : List Value := xs.map fun (d : Nat) => Value.int .u64 (d : Int)
theorem cellsC_length (xs : List Nat) : (cellsC xs).length = xs.length := by simp [cellsC]
theorem cellsC_get (xs : List Nat) (k : Nat) (h : k < xs.length) : (cellsC xs)[k]? = some (.int .u64 (xs.getD k 0 : Nat)) := by simp [cellsC, h]
theorem cellsC_set (xs : List Nat) (k d : Nat) : (cellsC xs).set k (.int .u64 (d : Int)) = cellsC (xs.set k d) := by simp [cellsC]
/-- Block g holds just the numbers xs of 64 bits. -/
def Cg (w : World) (g : Nat) (t : TypeId) (xs : List Nat) : Prop := w.heap[g]? = some (.cells (cellsC xs).toArray t (0, 0))
theorem Cg.lt {w : World} {g : Nat} {t : TypeId} {xs : List Nat} (h : Cg w g t xs) : g < w.heap.size := by
  rcases Nat.lt_or_ge g w.heap.size with hlt | hge
  · exact hlt
  · unfold Cg at h; rw [Array.getElem?_eq_none hge] at h; cases h
theorem Cg.cell {w : World} {g : Nat} {t : TypeId} {xs : List Nat} (h : Cg w g t xs) (k : Nat) (hk : k < xs.length) : w.cell? ⟨g, k, none⟩ = some (.int .u64 (xs.getD k 0 : Nat)) := by
  rw [cell_of_row w g k _ _ (0, 0) h, List.getElem?_toArray, cellsC_get xs k hk]
theorem Cg.frozen {w : World} {g : Nat} {t : TypeId} {xs : List Nat} (h : Cg w g t xs) (i : Nat) : w.frozen? ⟨g, i, none⟩ = false := by
  unfold Cg at h
  simp [World.frozen?, h]
theorem Cg.set {w : World} {g : Nat} {t : TypeId} {xs : List Nat} (h : Cg w g t xs) (k d : Nat) : Cg (w.setCell ⟨g, k, none⟩ (.int .u64 (d : Int))) g t (xs.set k d) := by
  unfold Cg at h ⊢
  simp [World.setCell, Array.getElem?_modify, h, ← cellsC_set]
theorem Cg.drew {w : World} {g : Nat} {t : TypeId} {xs : List Nat} (h : Cg w g t xs) : Cg w.drew g t xs := h
theorem Cg.below {w w' : World} {g : Nat} {t : TypeId} {xs : List Nat} {B : Nat} (h : Cg w g t xs) (hb : Below B w w') (hg : g < B) : Cg w' g t xs := (hb.block g hg).trans h

def zeros64 : List Nat := List.replicate 64 0
theorem run_clear (w : World) (g : Nat) (t : TypeId) (xs : List Nat) (h : Cg w g t xs) (hl : xs.length = 64) : ∃ w0, (∀ ty, (Builtin.clear_ #[68] ty #[.slice (some ⟨g, 0, none⟩) 64 64]).run Try.prog w = .ok (.tuple #[]) w0) ∧
    Cg w0 g t (zeros64) ∧ w.grownBy w0 (some g) := by
  have hl0 : (cellsC zeros64).length = 64 := by unfold zeros64; rw [cellsC_length, List.length_replicate]
  have hz : (Builtin.zeroCells (Value.int .u64 0).cells 64).toList = cellsC (zeros64) := by
    unfold zeros64 cellsC
    rw [List.map_replicate]
    refine List.eq_replicate_iff.2 ⟨by simp [Builtin.zeroCells, Value.cells], fun v hv => ?_⟩
    simp only [Builtin.zeroCells, Value.cells, Array.toList_map, List.mem_map] at hv
    obtain ⟨a, _, rfl⟩ := hv
    simp [Nat.mod_one]
  refine ⟨w.setRow g (cellsC (zeros64)).toArray, fun ty => ?_, setRow_heap w g _ _ _ _ h, ⟨rfl, rfl, rfl, by simp [World.setRow], fun k _ hne => setRow_other w g k _ (fun e => hne (by rw [e]))⟩⟩
  have hst := run_storeCells_from (P := Try.prog) g t (cellsC (zeros64)) 0 _ w h (by rw [hl0]; simp [cellsC_length, hl]) (fun v hv => by
    simp only [zeros64, cellsC, List.map_replicate] at hv
    rw [List.eq_of_mem_replicate hv]; rfl)
  rw [List.take_zero, List.nil_append] at hst
  simp [Builtin.clear_, run_underlying Try.underlying68, hz, hst]

def AllLe (cs : List Nat) (n : Nat) : Prop := ∀ c ∈ cs, c ≤ n
theorem AllLe.at {cs : List Nat} {n : Nat} (h : AllLe cs n) (k : Nat) : cs.getD k 0 ≤ n := by
  rw [List.getD_eq_getElem?_getD]
  rcases Nat.lt_or_ge k cs.length with g | g
  · rw [List.getElem?_eq_getElem g]; exact h _ (List.getElem_mem g)
  · rw [List.getElem?_eq_none g]; exact Nat.zero_le _
theorem AllLe.set {cs : List Nat} {n m : Nat} (h : AllLe cs n) (hnm : n ≤ m) (k d : Nat) (hd : d ≤ m) : AllLe (cs.set k d) m := by
  intro x hx
  rcases List.mem_or_eq_of_mem_set hx with g | g
  · exact Nat.le_trans (h _ g) hnm
  · rw [g]; exact hd
theorem fill_step {cs X Y : List Nat} {i j p : Nat} (hc : i + j + 1 < cs.length) (h : dv B32 cs = dv B32 (X.take i) * dv B32 Y + B32 ^ i * X.getD i 0 * dv B32 (Y.take j)) (hp : p = X.getD i 0 * Y.getD j 0) :
    dv B32 ((cs.set (i + j) (cs.getD (i + j) 0 + p % B32)).set (i + j + 1) (cs.getD (i + j + 1) 0 + p / B32)) = dv B32 (X.take i) * dv B32 Y + B32 ^ i * X.getD i 0 * dv B32 (Y.take (j + 1)) := by
  have h1 := dv_set_add B32 cs (i + j) (p % B32) (by omega)
  have h2 := dv_set_add B32 (cs.set (i + j) (cs.getD (i + j) 0 + p % B32)) (i + j + 1) (p / B32) (by simpa using hc)
  have h3 : (cs.set (i + j) (cs.getD (i + j) 0 + p % B32)).getD (i + j + 1) 0 = cs.getD (i + j + 1) 0 := by
    simp [List.getD_eq_getElem?_getD]
  rw [h3] at h2
  rw [h2, h1, h, dv_take_next, Nat.mul_add]
  have e := Nat.div_add_mod p B32
  have e2 : B32 ^ i * X.getD i 0 * (B32 ^ j * Y.getD j 0) = B32 ^ (i + j) * p := by
    rw [hp, Nat.pow_add]; grind
  rw [e2, Nat.pow_succ (m := i + j)]
  have e3 : B32 ^ (i + j) * p = B32 ^ (i + j) * B32 * (p / B32) + B32 ^ (i + j) * (p % B32) := by
    rw [Nat.mul_assoc, ← Nat.mul_add, e]
  omega
theorem fill_next {cs X Y : List Nat} {i : Nat} (h : dv B32 cs = dv B32 (X.take i) * dv B32 Y + B32 ^ i * X.getD i 0 * dv B32 (Y.take Y.length)) : dv B32 cs = dv B32 (X.take (i + 1)) * dv B32 Y := by
  rw [h, List.take_length, dv_take_next, Nat.add_mul]

/-- fill leaves the columns of the product. -/
def Filled (w : World) (g : Nat) (t : TypeId) (v : Nat) (e : Ending) (w' : World) : Prop :=
  e = .returned (.tuple #[]) ∧ ∃ cs : List Nat, cs.length = 64 ∧ AllLe cs 4398046511104 ∧ Cg w' g t cs ∧ dv B32 cs = v ∧ w.grownBy w' (some g)

end Go.Proofs.Ytnnohjabneepiaa

namespace Go.Proofs.Ytnnohjabneepiaa
open Go.RowKit Num

theorem cols_last {cs zs : List Nat} {c : Nat} (hz : zs.length = 64) (h : dv B32 (zs.take 64) + B32 ^ 64 * c = dv B32 (cs.take 64) + dv B32 (([] : List Nat).take 64)) (hl : cs.length = 64) (hv : dv B32 cs < B32 ^ 64) : dv B32 zs = dv B32 cs := by
  rw [dv_take_all _ _ _ (by omega), dv_take_all _ _ _ (by omega), List.take_nil, dv_nil] at h
  rcases Nat.eq_zero_or_pos c with rfl | hc
  · omega
  · have : B32 ^ 64 * 1 ≤ B32 ^ 64 * c := Nat.mul_le_mul_left _ hc
    omega

end Go.Proofs.Ytnnohjabneepiaa

namespace Go.Proofs.Ytnnohjabneepiaa
open Go.RowKit Num

end Go.Proofs.Ytnnohjabneepiaa
