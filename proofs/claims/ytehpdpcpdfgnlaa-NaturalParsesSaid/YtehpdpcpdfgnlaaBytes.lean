/-
  A slice of bytes that the call itself made.
-/
import Derived.Test.YtehpdpcpdfgnlaaBase
namespace Go.Proofs.Ytehpdpcpdfgnlaa
open Go.RowKit Num
theorem cellsB_set (l : List UInt8) (k : Nat) (b : UInt8) : (cellsB l).set k (.int .u8 (b.toNat : Int)) = cellsB (l.set k b) := by simp [cellsB]
theorem cellsB_get (l : List UInt8) (k : Nat) (h : k < l.length) : (cellsB l)[k]? = some (.int .u8 ((l.getD k 0).toNat : Int)) := by simp [cellsB, h]
theorem madeB (n : Nat) : (madeCells (Value.int .u8 0).cells (n * 1)).toList = cellsB (List.replicate n 0) := by
  have : cellsB (List.replicate n 0) = List.replicate n (.int .u8 0) := by simp [cellsB]
  rw [this]
  refine List.eq_replicate_iff.2 ⟨by simp [madeCells], fun v hv => ?_⟩
  simp only [madeCells, Value.cells, Array.toList_map, List.mem_map] at hv
  obtain ⟨a, _, rfl⟩ := hv
  simp [Nat.mod_one]
/-- A slice of the call's own that holds just the bytes l. -/
def Bt (w : World) (g : Nat) (l : List UInt8) : Prop := w.heap[g]? = some (.cells (cellsB l).toArray 5 (0, 0))
theorem Bt.lt {w : World} {g : Nat} {l : List UInt8} (h : Bt w g l) : g < w.heap.size := by
  rcases Nat.lt_or_ge g w.heap.size with hlt | hge
  · exact hlt
  · unfold Bt at h; rw [Array.getElem?_eq_none hge] at h; cases h
theorem Bt.cell {w : World} {g : Nat} {l : List UInt8} (h : Bt w g l) (k : Nat) (hk : k < l.length) : w.cell? ⟨g, k, none⟩ = some (.int .u8 ((l.getD k 0).toNat : Int)) := by
  rw [cell_of_row w g k _ _ (0, 0) h, List.getElem?_toArray, cellsB_get l k hk]
theorem Bt.frozen {w : World} {g : Nat} {l : List UInt8} (h : Bt w g l) (i : Nat) : w.frozen? ⟨g, i, none⟩ = false := by
  unfold Bt at h
  simp [World.frozen?, h]
theorem Bt.drew {w : World} {g : Nat} {l : List UInt8} (h : Bt w g l) : Bt w.drew g l := h
theorem Bt.alloc {w : World} {g : Nat} {l : List UInt8} (h : Bt w g l) (o : Obj) : Bt (w.alloc o) g l := (Below.heap_alloc w o g h.lt).trans h
theorem Bt.set {w : World} {g : Nat} {l : List UInt8} (h : Bt w g l) (k : Nat) (b : UInt8) : Bt (w.setCell ⟨g, k, none⟩ (.int .u8 (b.toNat : Int))) g (l.set k b) := by
  unfold Bt at h ⊢
  simp [World.setCell, Array.getElem?_modify, h, ← cellsB_set]
theorem Bt.below {w w' : World} {g : Nat} {l : List UInt8} {B : Nat} (h : Bt w g l) (hb : Below B w w') (hg : g < B) : Bt w' g l := (hb.block g hg).trans h
theorem Bt.of_own {w : World} {base g n : Nat} {l : List UInt8} (h : w.ownsRow base 5 1 (.slice (some ⟨g, 0, none⟩) n n) n (cellsB l)) : Bt w g l := by
  rcases h.2 with ⟨h', _⟩ | ⟨g', cap, cur, hv, _, hh, _, _, hc, ht⟩
  · cases h'
  · injection hv with h1 h2 h3
    injection h1 with h1
    injection h1 with h1
    subst h1
    subst h3
    unfold Bt
    rw [hh, ← ht, List.take_of_length_le (by simp [hc])]
/-- 'string(b[k:])' of such a slice. -/
theorem Bt.string {P : Program} {w : World} {src dst e : TypeId} {g : Nat} {l : List UInt8} (h : Bt w g l) (k n c : Nat) (hn : n = l.length - k) (hs : P.underlying src = some (.slice e)) (he : P.underlying e = some (.int .u8)) (hd : P.underlying dst = some .string) :
    (convert src dst (.slice (some ⟨g, k, none⟩) n c)).run P w = .ok (.string ⟨(l.drop k).toArray⟩) w := by
  have hl : (l.drop k).length = n := by rw [List.length_drop, hn]
  rw [← hl]
  refine run_convert_bytes_back w src dst e _ c (l.drop k) hs he hd fun j hj => ?_
  have hj2 : k + j < l.length := by rw [List.length_drop] at hj; omega
  have := h.cell (k + j) hj2
  rw [show Addr.add ⟨g, k, none⟩ j = ⟨g, k + j, none⟩ from by unfold Addr.add; split <;> simp_all, this]
  simp [List.getD_eq_getElem?_getD, hj2]

end Go.Proofs.Ytehpdpcpdfgnlaa
