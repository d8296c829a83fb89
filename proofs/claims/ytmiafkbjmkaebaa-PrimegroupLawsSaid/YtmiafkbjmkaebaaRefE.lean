/-
  The contract of the reference's Times.
-/
import Derived.Test.YtmiafkbjmkaebaaRefA
import Derived.Test.YtmiafkbjmkaebaaMul
import Derived.StillTailTactics
import Derived.Deep.RegionWith
namespace Go.Proofs.Ytmiafkbjmkaebaa
open Go.RowKit Num

def cellsI (xs : List Nat) : List Value := xs.map fun (d : Nat) => Value.int .i64 (d : Int)
theorem cellsI_length (xs : List Nat) : (cellsI xs).length = xs.length := by simp [cellsI]
theorem cellsI_get (xs : List Nat) (k : Nat) (h : k < xs.length) : (cellsI xs)[k]? = some (.int .i64 (xs.getD k 0 : Nat)) := by simp [cellsI, h]
theorem cellsI_set (xs : List Nat) (k d : Nat) : (cellsI xs).set k (.int .i64 (d : Int)) = cellsI (xs.set k d) := by simp [cellsI]
/-- Block g holds just the numbers xs as ints. -/
def Ig (w : World) (g : Nat) (xs : List Nat) : Prop := w.heap[g]? = some (.cells (cellsI xs).toArray 3 (0, 0))
theorem Ig.lt {w : World} {g : Nat} {xs : List Nat} (h : Ig w g xs) : g < w.heap.size := by
  rcases Nat.lt_or_ge g w.heap.size with hlt | hge
  · exact hlt
  · unfold Ig at h; rw [Array.getElem?_eq_none hge] at h; cases h
theorem Ig.cell {w : World} {g : Nat} {xs : List Nat} (h : Ig w g xs) (k : Nat) (hk : k < xs.length) : w.cell? ⟨g, k, none⟩ = some (.int .i64 (xs.getD k 0 : Nat)) := by
  rw [cell_of_row w g k _ _ (0, 0) h, List.getElem?_toArray, cellsI_get xs k hk]
theorem Ig.frozen {w : World} {g : Nat} {xs : List Nat} (h : Ig w g xs) (i : Nat) : w.frozen? ⟨g, i, none⟩ = false := by
  unfold Ig at h
  simp [World.frozen?, h]
theorem Ig.set {w : World} {g : Nat} {xs : List Nat} (h : Ig w g xs) (k d : Nat) : Ig (w.setCell ⟨g, k, none⟩ (.int .i64 (d : Int))) g (xs.set k d) := by
  unfold Ig at h ⊢
  simp [World.setCell, Array.getElem?_modify, h, ← cellsI_set]
theorem Ig.drew {w : World} {g : Nat} {xs : List Nat} (h : Ig w g xs) : Ig w.drew g xs := h
theorem Ig.drewN {w : World} {g : Nat} {xs : List Nat} (h : Ig w g xs) (n : Nat) : Ig (w.drewN n) g xs := h
theorem Ig.far {w : World} {g : Nat} {xs : List Nat} (h : Ig w g xs) {p : Addr} (hp : g ≠ p.block) (u : Value) : Ig (w.setCell p u) g xs := (Below.heap_setCell w p u g hp).trans h
theorem Ig.below {w w' : World} {g : Nat} {xs : List Nat} {B : Nat} (h : Ig w g xs) (hb : Below B w w') (hg : g < B) : Ig w' g xs := (hb.block g hg).trans h
theorem Ig.of_own {w : World} {base g n : Nat} {xs : List Nat} (h : w.ownsRow base 3 1 (.slice (some ⟨g, 0, none⟩) n n) n (cellsI xs)) : Ig w g xs := by
  rcases h.2 with ⟨h', _⟩ | ⟨g', cap, cur, hv, _, hh, _, _, hc, ht⟩
  · cases h'
  · injection hv with h1 h2 h3
    injection h1 with h1
    injection h1 with h1
    subst h1
    subst h3
    unfold Ig
    rw [hh, ← ht, List.take_of_length_le (by simp [hc])]
theorem madeI (n : Nat) : (madeCells (Value.int .i64 0).cells (n * 1)).toList = cellsI (List.replicate n 0) := by
  have : cellsI (List.replicate n 0) = List.replicate n (.int .i64 0) := by simp [cellsI]
  rw [this]
  refine List.eq_replicate_iff.2 ⟨by simp [madeCells], fun v hv => ?_⟩
  simp only [madeCells, Value.cells, Array.toList_map, List.mem_map] at hv
  obtain ⟨a, _, rfl⟩ := hv
  simp [Nat.mod_one]
theorem info_int : (Try.prog.info? 3).map (fun i => (i.zero, i.size, i.bytes)) = some (some (.int .i64 0), 1, 8) := by kernel_rfl

theorem row_step {s : List Nat} {a b i k : Nat} (hk : i + k < s.length) (h : dv 256 s = a % 256 ^ i * b + 256 ^ i * byteN a i * (b % 256 ^ k)) :
    dv 256 (s.set (i + k) (s.getD (i + k) 0 + byteN a i * byteN b k)) = a % 256 ^ i * b + 256 ^ i * byteN a i * (b % 256 ^ (k + 1)) := by
  rw [dv_set_add 256 s _ _ hk, h, byte_next b k, Nat.pow_add]
  grind
theorem row_end {s : List Nat} {a b i : Nat} (h : dv 256 s = a % 256 ^ i * b + 256 ^ i * byteN a i * (b % 256 ^ (bs b).size)) : dv 256 s = a % 256 ^ (i + 1) * b := by
  have hb : b < 256 ^ (bs b).size := by have := cb_lt_pow b; rwa [← bs_size] at this
  rw [h, Nat.mod_eq_of_lt hb, byte_next, Nat.add_mul]

end Go.Proofs.Ytmiafkbjmkaebaa
