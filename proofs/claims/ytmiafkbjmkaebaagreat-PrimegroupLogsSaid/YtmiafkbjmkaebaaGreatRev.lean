/-
  The contract of slices.Reverse at slices of bytes.
-/
import Derived.Test.YtmiafkbjmkaebaaGreatBase
import Derived.RegionTactic
import Derived.BigRegion
namespace Go.Proofs.YtmiafkbjmkaebaaGreat
open Go.RowKit Num

/-- The first k bytes and the last k bytes have changed their places. -/
def Swapped (l m : List UInt8) (n k : Nat) : Prop := m.length = n ∧ ∀ t, t < n → m.getD t 0 = if t < k ∨ n - k ≤ t then l.getD (n - 1 - t) 0 else l.getD t 0
theorem getD_set_eq (l : List UInt8) {k : Nat} (b : UInt8) (h : k < l.length) : (l.set k b).getD k 0 = b := by simp [List.getD_eq_getElem?_getD, h]
theorem getD_set_ne (l : List UInt8) {k t : Nat} (b : UInt8) (h : k ≠ t) : (l.set k b).getD t 0 = l.getD t 0 := by simp [List.getD_eq_getElem?_getD, h]
theorem swap_step {l m : List UInt8} {n k j : Nat} (h : Swapped l m n k) (hj : j + 1 + k = n) (hkj : k < j) : Swapped l ((m.set k (m.getD j 0)).set j (m.getD k 0)) n (k + 1) := by
  obtain ⟨h1, h2⟩ := h
  refine ⟨by simpa using h1, fun t ht => ?_⟩
  by_cases e1 : t = j
  · subst e1
    rw [getD_set_eq _ _ (by simp; omega), h2 k (by omega), if_neg (by omega), if_pos (by omega)]
    congr 1; omega
  · by_cases e2 : t = k
    · subst e2
      rw [getD_set_ne _ _ (by omega), getD_set_eq _ _ (by omega), h2 j (by omega), if_neg (by omega), if_pos (by omega)]
      congr 1; omega
    · rw [getD_set_ne _ _ (by omega), getD_set_ne _ _ (by omega), h2 t ht]
      by_cases e3 : t < k ∨ n - k ≤ t
      · rw [if_pos e3, if_pos (by omega)]
      · rw [if_neg e3, if_neg (by omega)]
theorem swap_end {l m : List UInt8} {n k : Nat} (h : Swapped l m n k) (hl : l.length = n) (hk : n ≤ 2 * k + 1) (hk2 : 2 * k ≤ n) : m = l.reverse := by
  obtain ⟨h1, h2⟩ := h
  apply List.ext_getElem
  · simp; omega
  · intro t ht ht2
    have hm : m[t] = m.getD t 0 := by simp [List.getD_eq_getElem?_getD, ht]
    rw [hm, h2 t (by omega), List.getElem_reverse]
    have hl2 : ∀ i (hi : i < l.length), l[i] = l.getD i 0 := fun i hi => by simp [List.getD_eq_getElem?_getD, hi]
    rw [hl2]
    by_cases e : t < k ∨ n - k ≤ t
    · rw [if_pos e]; congr 1; omega
    · rw [if_neg e]; congr 1; omega

def Reversed (w : World) (base g n cap : Nat) (l : List UInt8) (e : Ending) (w' : World) : Prop :=
  e = .returned (.tuple #[]) ∧ w'.ownsRow base 5 1 (.slice (some ⟨g, 0, none⟩) n cap) n (cellsB l.reverse) ∧ w.grownBy w' (some g)

theorem owns_bytes_cell {w : World} {base g n cap : Nat} {m : List UInt8} (h : w.ownsRow base 5 1 (.slice (some ⟨g, 0, none⟩) n cap) n (cellsB m)) (hm : m.length = n) (k : Nat) (hk : k < n) : w.cell? ⟨g, k, none⟩ = some (.int .u8 ((m.getD k 0).toNat : Int)) := by
  rw [h.cellAt k (by omega), cellsB_get m k (by omega)]
theorem owns_bytes_set {w : World} {base g n cap : Nat} {m : List UInt8} (h : w.ownsRow base 5 1 (.slice (some ⟨g, 0, none⟩) n cap) n (cellsB m)) (k : Nat) (b : UInt8) :
    (w.setCell ⟨g, k, none⟩ (.int .u8 (b.toNat : Int))).ownsRow base 5 1 (.slice (some ⟨g, 0, none⟩) n cap) n (cellsB (m.set k b)) := by
  have := (h.stored k (.int .u8 (b.toNat : Int))).1
  rwa [cellsB_set] at this
theorem grown_drew' {a w : World} {r : Option Nat} (h : a.grownBy w r) : a.grownBy w.drew r := ⟨h.os, h.tape, h.output, h.size, h.block⟩
theorem grown_set' {a w : World} {g : Nat} (h : a.grownBy w (some g)) (o : Nat) (u : Value) : a.grownBy (w.setCell ⟨g, o, none⟩ u) (some g) :=
  ⟨h.os, h.tape, h.output, by simpa [World.setCell] using h.size, fun k hk hne => (Below.heap_setCell w ⟨g, o, none⟩ u k (fun e => hne (by rw [e]))).trans (h.block k hk hne)⟩

end Go.Proofs.YtmiafkbjmkaebaaGreat
