/-
  Words to the base 2^64 in slices of uint64: plain facts.
-/
import Derived.Test.YtmiafkbjmkaebaaGreatDig
namespace Go.Proofs.YtmiafkbjmkaebaaGreat
open Go.RowKit Num

/-- The digits' base. -/
def B64 : Nat := 18446744073709551616
def cellsW (xs : List Nat) : List Value := xs.map fun (d : Nat) => Value.int .u64 (d : Int)
theorem cellsW_length (xs : List Nat) : (cellsW xs).length = xs.length := by simp [cellsW]
theorem cellsW_get (xs : List Nat) (k : Nat) (h : k < xs.length) : (cellsW xs)[k]? = some (.int .u64 (xs.getD k 0 : Nat)) := by
  simp [cellsW, h]
theorem cellsW_set (xs : List Nat) (k d : Nat) : (cellsW xs).set k (.int .u64 (d : Int)) = cellsW (xs.set k d) := by
  simp [cellsW]
theorem cellsW_replicate (n : Nat) : cellsW (List.replicate n 0) = List.replicate n (.int .u64 0) := by simp [cellsW]
theorem info_u64 : (Tryz.prog.info? 61).map (fun i => (i.zero, i.size, i.bytes)) = some (some (.int .u64 0), 1, 8) := by kernel_rfl

/-- Every digit is below the base. -/
def SmallW (xs : List Nat) : Prop := ∀ d ∈ xs, d < B64
theorem SmallW.at {xs : List Nat} (h : SmallW xs) (k : Nat) : xs.getD k 0 < B64 := by
  rw [List.getD_eq_getElem?_getD]
  rcases Nat.lt_or_ge k xs.length with g | g
  · rw [List.getElem?_eq_getElem g]; exact h _ (List.getElem_mem g)
  · rw [List.getElem?_eq_none g]; decide
theorem SmallW.set {xs : List Nat} (h : SmallW xs) (k d : Nat) (hd : d < B64) : SmallW (xs.set k d) := by
  intro x hx
  rcases List.mem_or_eq_of_mem_set hx with g | g
  · exact h _ g
  · rw [g]; exact hd
theorem SmallW.nil : SmallW [] := by intro d hd; cases hd
theorem SmallW.replicate (n : Nat) : SmallW (List.replicate n 0) := by
  intro d hd; rw [List.eq_of_mem_replicate hd]; decide
theorem SmallW.take {xs : List Nat} (h : SmallW xs) (k : Nat) : SmallW (xs.take k) := fun d hd => h d (List.mem_of_mem_take hd)
theorem SmallW.drop {xs : List Nat} (h : SmallW xs) (k : Nat) : SmallW (xs.drop k) := fun d hd => h d (List.mem_of_mem_drop hd)
theorem SmallW.dv_lt {xs : List Nat} (h : SmallW xs) : dv B64 xs < B64 ^ xs.length := Num.dv_lt xs h
theorem SmallW.app {xs ys : List Nat} (h : SmallW xs) (g : SmallW ys) : SmallW (xs ++ ys) := by
  intro d hd
  rcases List.mem_append.1 hd with a | a
  · exact h _ a
  · exact g _ a
theorem SmallW.one {d : Nat} (h : d < B64) : SmallW [d] := by intro x hx; simp at hx; subst hx; exact h

/-- Block g holds just the digits xs. -/
def Wg (w : World) (g : Nat) (xs : List Nat) : Prop := w.heap[g]? = some (.cells (cellsW xs).toArray 61 (0, 0))
theorem Wg.lt {w : World} {g : Nat} {xs : List Nat} (h : Wg w g xs) : g < w.heap.size := by
  rcases Nat.lt_or_ge g w.heap.size with hlt | hge
  · exact hlt
  · unfold Wg at h; rw [Array.getElem?_eq_none hge] at h; cases h
theorem Wg.cell {w : World} {g : Nat} {xs : List Nat} (h : Wg w g xs) (k : Nat) (hk : k < xs.length) : w.cell? ⟨g, k, none⟩ = some (.int .u64 (xs.getD k 0 : Nat)) := by
  rw [cell_of_row w g k _ _ (0, 0) h, List.getElem?_toArray, cellsW_get xs k hk]
theorem Wg.frozen {w : World} {g : Nat} {xs : List Nat} (h : Wg w g xs) (i : Nat) : w.frozen? ⟨g, i, none⟩ = false := by
  unfold Wg at h
  simp [World.frozen?, h]
theorem Wg.drew {w : World} {g : Nat} {xs : List Nat} (h : Wg w g xs) : Wg w.drew g xs := h
theorem Wg.drewN {w : World} {g : Nat} {xs : List Nat} (h : Wg w g xs) (n : Nat) : Wg (w.drewN n) g xs := h
theorem Wg.alloc {w : World} {g : Nat} {xs : List Nat} (h : Wg w g xs) (o : Obj) : Wg (w.alloc o) g xs := (Below.heap_alloc w o g h.lt).trans h
theorem Wg.set {w : World} {g : Nat} {xs : List Nat} (h : Wg w g xs) (k d : Nat) : Wg (w.setCell ⟨g, k, none⟩ (.int .u64 (d : Int))) g (xs.set k d) := by
  unfold Wg at h ⊢
  simp [World.setCell, Array.getElem?_modify, h, ← cellsW_set]
theorem Wg.far {w : World} {g : Nat} {xs : List Nat} (h : Wg w g xs) {p : Addr} (hp : g ≠ p.block) (u : Value) : Wg (w.setCell p u) g xs := (Below.heap_setCell w p u g hp).trans h
theorem Wg.below {w w' : World} {g : Nat} {xs : List Nat} {B : Nat} (h : Wg w g xs) (hb : Below B w w') (hg : g < B) : Wg w' g xs := (hb.block g hg).trans h
theorem Wg.kept {w w' : World} {g : Nat} {xs : List Nat} {row : Option Nat} (h : Wg w g xs) (hb : w.grownBy w' row) (hg : some g ≠ row) : Wg w' g xs := (hb.block g h.lt hg).trans h
theorem Wg.of_own {w : World} {base g n : Nat} {xs : List Nat} (h : w.ownsRow base 61 1 (.slice (some ⟨g, 0, none⟩) n n) n (cellsW xs)) : Wg w g xs := by
  rcases h.2 with ⟨h', _⟩ | ⟨g', cap, cur, hv, _, hh, _, _, hc, ht⟩
  · cases h'
  · injection hv with h1 h2 h3
    injection h1 with h1
    injection h1 with h1
    subst h1
    subst h3
    unfold Wg
    rw [hh, ← ht, List.take_of_length_le (by simp [hc])]
theorem madeW (n : Nat) : (madeCells (Value.int .u64 0).cells (n * 1)).toList = cellsW (List.replicate n 0) := by
  rw [cellsW_replicate]
  refine List.eq_replicate_iff.2 ⟨by simp [madeCells], fun v hv => ?_⟩
  simp only [madeCells, Value.cells, Array.toList_map, List.mem_map] at hv
  obtain ⟨a, _, rfl⟩ := hv
  simp [Nat.mod_one]

/-- A slice at the address A reads as the digits xs. -/
def IsW (w : World) (A : Option Addr) (xs : List Nat) : Prop :=
  SmallW xs ∧ (0 < xs.length → ∃ g o, A = some ⟨g, o, none⟩ ∧ g < w.heap.size ∧ ∀ k, k < xs.length → w.cell? ⟨g, o + k, none⟩ = some (.int .u64 (xs.getD k 0 : Nat)))
theorem IsW.of_wg {w : World} {g : Nat} {xs : List Nat} (h : Wg w g xs) (hs : SmallW xs) : IsW w (some ⟨g, 0, none⟩) xs :=
  ⟨hs, fun _ => ⟨g, 0, rfl, h.lt, fun k hk => by rw [Nat.zero_add]; exact h.cell k hk⟩⟩
theorem IsW.below {w w' : World} {A : Option Addr} {xs : List Nat} (h : IsW w A xs) (hb : Below w.heap.size w w') : IsW w' A xs :=
  ⟨h.1, fun hp => by
    obtain ⟨g, o, rfl, hg, hc⟩ := h.2 hp
    exact ⟨g, o, rfl, Nat.lt_of_lt_of_le hg hb.size, fun k hk => (hb.cell (p := ⟨g, o + k, none⟩) hg).trans (hc k hk)⟩⟩
theorem IsW.nil (w : World) (A : Option Addr) : IsW w A [] := ⟨SmallW.nil, fun h => absurd h (by simp)⟩
theorem IsW.take {w : World} {A : Option Addr} {xs : List Nat} (h : IsW w A xs) (n : Nat) : IsW w A (xs.take n) :=
  ⟨h.1.take n, fun hp => by
    have hl : (xs.take n).length = min n xs.length := List.length_take
    obtain ⟨g, o, rfl, hg, hc⟩ := h.2 (by omega)
    exact ⟨g, o, rfl, hg, fun k hk => by rw [getD_take (by omega)]; exact hc k (by omega)⟩⟩

theorem IsW.grown {w w' : World} {A : Option Addr} {xs : List Nat} {g : Nat} (h : IsW w A xs) (hb : w.grownBy w' (some g)) (ha : Apart A g) : IsW w' A xs :=
  ⟨h.1, fun hp => by
    obtain ⟨gx, o, rfl, hg, hc⟩ := h.2 hp
    exact ⟨gx, o, rfl, Nat.lt_of_lt_of_le hg hb.size, fun k hk => (grown_cell hb (p := ⟨gx, o + k, none⟩) hg (ha ⟨gx, o, none⟩ rfl)).trans (hc k hk)⟩⟩

end Go.Proofs.YtmiafkbjmkaebaaGreat
