/-
  Digits of 32 bits in memory: a block that is known whole, and a slice that reads as a list of digits.
-/
import Derived.Test.YtehpdpcpdfgnlaaBase
namespace Go.Proofs.Ytehpdpcpdfgnlaa
open Go.RowKit Num

/-- The digits' base. -/
def B32 : Nat := 4294967296
def cellsD (xs : List Nat) : List Value := xs.map fun (d : Nat) => Value.int .u32 (d : Int)
theorem cellsD_length (xs : List Nat) : (cellsD xs).length = xs.length := by simp [cellsD]
theorem cellsD_get (xs : List Nat) (k : Nat) (h : k < xs.length) : (cellsD xs)[k]? = some (.int .u32 (xs.getD k 0 : Nat)) := by
  simp [cellsD, h]
theorem cellsD_set (xs : List Nat) (k d : Nat) : (cellsD xs).set k (.int .u32 (d : Int)) = cellsD (xs.set k d) := by
  simp [cellsD]
theorem cellsD_replicate (n : Nat) : cellsD (List.replicate n 0) = List.replicate n (.int .u32 0) := by simp [cellsD]
theorem info_u32 : (Try.prog.info? 80).map (fun i => (i.zero, i.size, i.bytes)) = some (some (.int .u32 0), 1, 4) := by kernel_rfl

/-- Every digit is below the base. -/
def Small (xs : List Nat) : Prop := ∀ d ∈ xs, d < B32
theorem Small.at {xs : List Nat} (h : Small xs) (k : Nat) : xs.getD k 0 < B32 := by
  rw [List.getD_eq_getElem?_getD]
  rcases Nat.lt_or_ge k xs.length with g | g
  · rw [List.getElem?_eq_getElem g]; exact h _ (List.getElem_mem g)
  · rw [List.getElem?_eq_none g]; decide
theorem Small.set {xs : List Nat} (h : Small xs) (k d : Nat) (hd : d < B32) : Small (xs.set k d) := by
  intro x hx
  rcases List.mem_or_eq_of_mem_set hx with g | g
  · exact h _ g
  · rw [g]; exact hd
theorem Small.nil : Small [] := by intro d hd; cases hd
theorem Small.replicate (n : Nat) : Small (List.replicate n 0) := by
  intro d hd; rw [List.eq_of_mem_replicate hd]; decide
theorem Small.take {xs : List Nat} (h : Small xs) (k : Nat) : Small (xs.take k) := fun d hd => h d (List.mem_of_mem_take hd)
theorem Small.drop {xs : List Nat} (h : Small xs) (k : Nat) : Small (xs.drop k) := fun d hd => h d (List.mem_of_mem_drop hd)
theorem Small.dv_lt {xs : List Nat} (h : Small xs) : dv B32 xs < B32 ^ xs.length := Num.dv_lt xs h
theorem Small.app {xs ys : List Nat} (h : Small xs) (g : Small ys) : Small (xs ++ ys) := by
  intro d hd
  rcases List.mem_append.1 hd with a | a
  · exact h _ a
  · exact g _ a
theorem Small.one {d : Nat} (h : d < B32) : Small [d] := by intro x hx; simp at hx; subst hx; exact h

/-- Block g holds just the digits xs. -/
def Dg (w : World) (g : Nat) (xs : List Nat) : Prop := w.heap[g]? = some (.cells (cellsD xs).toArray 80 (0, 0))
theorem Dg.lt {w : World} {g : Nat} {xs : List Nat} (h : Dg w g xs) : g < w.heap.size := by
  rcases Nat.lt_or_ge g w.heap.size with hlt | hge
  · exact hlt
  · unfold Dg at h; rw [Array.getElem?_eq_none hge] at h; cases h
theorem Dg.cell {w : World} {g : Nat} {xs : List Nat} (h : Dg w g xs) (k : Nat) (hk : k < xs.length) : w.cell? ⟨g, k, none⟩ = some (.int .u32 (xs.getD k 0 : Nat)) := by
  rw [cell_of_row w g k _ _ (0, 0) h, List.getElem?_toArray, cellsD_get xs k hk]
theorem Dg.frozen {w : World} {g : Nat} {xs : List Nat} (h : Dg w g xs) (i : Nat) : w.frozen? ⟨g, i, none⟩ = false := by
  unfold Dg at h
  simp [World.frozen?, h]
theorem Dg.drew {w : World} {g : Nat} {xs : List Nat} (h : Dg w g xs) : Dg w.drew g xs := h
theorem Dg.drewN {w : World} {g : Nat} {xs : List Nat} (h : Dg w g xs) (n : Nat) : Dg (w.drewN n) g xs := h
theorem Dg.alloc {w : World} {g : Nat} {xs : List Nat} (h : Dg w g xs) (o : Obj) : Dg (w.alloc o) g xs := (Below.heap_alloc w o g h.lt).trans h
theorem Dg.set {w : World} {g : Nat} {xs : List Nat} (h : Dg w g xs) (k d : Nat) : Dg (w.setCell ⟨g, k, none⟩ (.int .u32 (d : Int))) g (xs.set k d) := by
  unfold Dg at h ⊢
  simp [World.setCell, Array.getElem?_modify, h, ← cellsD_set]
theorem Dg.far {w : World} {g : Nat} {xs : List Nat} (h : Dg w g xs) {p : Addr} (hp : g ≠ p.block) (u : Value) : Dg (w.setCell p u) g xs := (Below.heap_setCell w p u g hp).trans h
theorem Dg.below {w w' : World} {g : Nat} {xs : List Nat} {B : Nat} (h : Dg w g xs) (hb : Below B w w') (hg : g < B) : Dg w' g xs := (hb.block g hg).trans h
theorem Dg.kept {w w' : World} {g : Nat} {xs : List Nat} {row : Option Nat} (h : Dg w g xs) (hb : w.grownBy w' row) (hg : some g ≠ row) : Dg w' g xs := (hb.block g h.lt hg).trans h
theorem Dg.of_own {w : World} {base g n : Nat} {xs : List Nat} (h : w.ownsRow base 80 1 (.slice (some ⟨g, 0, none⟩) n n) n (cellsD xs)) : Dg w g xs := by
  rcases h.2 with ⟨h', _⟩ | ⟨g', cap, cur, hv, _, hh, _, _, hc, ht⟩
  · cases h'
  · injection hv with h1 h2 h3
    injection h1 with h1
    injection h1 with h1
    subst h1
    subst h3
    unfold Dg
    rw [hh, ← ht, List.take_of_length_le (by simp [hc])]
theorem madeD (n : Nat) : (madeCells (Value.int .u32 0).cells (n * 1)).toList = cellsD (List.replicate n 0) := by
  rw [cellsD_replicate]
  refine List.eq_replicate_iff.2 ⟨by simp [madeCells], fun v hv => ?_⟩
  simp only [madeCells, Value.cells, Array.toList_map, List.mem_map] at hv
  obtain ⟨a, _, rfl⟩ := hv
  simp [Nat.mod_one]

/-- A slice at the address A reads as the digits xs. -/
def IsD (w : World) (A : Option Addr) (xs : List Nat) : Prop :=
  Small xs ∧ (0 < xs.length → ∃ g o, A = some ⟨g, o, none⟩ ∧ g < w.heap.size ∧ ∀ k, k < xs.length → w.cell? ⟨g, o + k, none⟩ = some (.int .u32 (xs.getD k 0 : Nat)))
theorem IsD.of_dg {w : World} {g : Nat} {xs : List Nat} (h : Dg w g xs) (hs : Small xs) : IsD w (some ⟨g, 0, none⟩) xs :=
  ⟨hs, fun _ => ⟨g, 0, rfl, h.lt, fun k hk => by rw [Nat.zero_add]; exact h.cell k hk⟩⟩
theorem IsD.below {w w' : World} {A : Option Addr} {xs : List Nat} (h : IsD w A xs) (hb : Below w.heap.size w w') : IsD w' A xs :=
  ⟨h.1, fun hp => by
    obtain ⟨g, o, rfl, hg, hc⟩ := h.2 hp
    exact ⟨g, o, rfl, Nat.lt_of_lt_of_le hg hb.size, fun k hk => (hb.cell (p := ⟨g, o + k, none⟩) hg).trans (hc k hk)⟩⟩
theorem IsD.nil (w : World) (A : Option Addr) : IsD w A [] := ⟨Small.nil, fun h => absurd h (by simp)⟩
theorem getD_take {xs : List Nat} {n k : Nat} (h : k < n) : (xs.take n).getD k 0 = xs.getD k 0 := by
  simp [List.getD_eq_getElem?_getD, h]
theorem getD_drop {xs : List Nat} {n k : Nat} : (xs.drop n).getD k 0 = xs.getD (n + k) 0 := by
  simp [List.getD_eq_getElem?_getD]
theorem IsD.take {w : World} {A : Option Addr} {xs : List Nat} (h : IsD w A xs) (n : Nat) : IsD w A (xs.take n) :=
  ⟨h.1.take n, fun hp => by
    have hl : (xs.take n).length = min n xs.length := List.length_take
    obtain ⟨g, o, rfl, hg, hc⟩ := h.2 (by omega)
    exact ⟨g, o, rfl, hg, fun k hk => by rw [getD_take (by omega)]; exact hc k (by omega)⟩⟩

/-- Only block g, and what is new, has turned: behind a draw, and behind a store into block g. -/
theorem grown_drew {a w : World} {r : Option Nat} (h : a.grownBy w r) : a.grownBy w.drew r := ⟨h.os, h.tape, h.output, h.size, h.block⟩
theorem grown_set {a w : World} {g : Nat} (h : a.grownBy w (some g)) (o : Nat) (u : Value) : a.grownBy (w.setCell ⟨g, o, none⟩ u) (some g) :=
  ⟨h.os, h.tape, h.output, by simpa [World.setCell] using h.size, fun k hk hne => (Below.heap_setCell w ⟨g, o, none⟩ u k (fun e => hne (by rw [e]))).trans (h.block k hk hne)⟩
theorem grown_cell {a w : World} {g : Nat} (h : a.grownBy w (some g)) {p : Addr} (hp : p.block < a.heap.size) (hne : p.block ≠ g) : w.cell? p = a.cell? p :=
  World.cell?_of_block (h.block p.block hp (fun e => hne (by injection e)))
theorem below_draws {B : Nat} {a w : World} (h : Below B a w) (n : Nat) : Below B a (w.drewN n) := ⟨h.os, h.tape, h.output, h.size, h.block⟩
/-- A slice that lies in another block than g. -/
def Apart (A : Option Addr) (g : Nat) : Prop := ∀ a, A = some a → a.block ≠ g
theorem IsD.grown {w w' : World} {A : Option Addr} {xs : List Nat} {g : Nat} (h : IsD w A xs) (hb : w.grownBy w' (some g)) (ha : Apart A g) : IsD w' A xs :=
  ⟨h.1, fun hp => by
    obtain ⟨gx, o, rfl, hg, hc⟩ := h.2 hp
    exact ⟨gx, o, rfl, Nat.lt_of_lt_of_le hg hb.size, fun k hk => (grown_cell hb (p := ⟨gx, o + k, none⟩) hg (ha ⟨gx, o, none⟩ rfl)).trans (hc k hk)⟩⟩

end Go.Proofs.Ytehpdpcpdfgnlaa
