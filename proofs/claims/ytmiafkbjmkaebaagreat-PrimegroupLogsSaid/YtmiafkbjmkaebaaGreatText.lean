/-
  The contract of natural.Text for canonical arguments.
-/
import Derived.Test.YtmiafkbjmkaebaaGreatRev
import Derived.Test.YtmiafkbjmkaebaaGreatNum
import Derived.Test.YtmiafkbjmkaebaaGreatDig
import Derived.Test.YtmiafkbjmkaebaaGreatNatA
import Derived.Test.YtmiafkbjmkaebaaGreatNatD
namespace Go.Proofs.YtmiafkbjmkaebaaGreat
open Go.RowKit Num

def textOf (n : Nat) : ByteArray := ⟨(dtext n).toArray⟩

/-- After i digits have come out of a number. -/
def lowDig (a k : Nat) : Nat := a / 10 ^ k
theorem low_next (a k : Nat) : lowDig a (k + 1) = lowDig a k / 10 := by
  unfold lowDig; rw [Nat.pow_succ, Nat.div_div_eq_div_mul]
theorem group_dig {a k i r : Nat} (hr : r = lowDig a k % 1000000000 / 10 ^ i) (hi : i < 9) : r % 10 = lowDig a (k + i) % 10 := by
  have e : lowDig a (k + i) = lowDig a k / 10 ^ i := by unfold lowDig; rw [Nat.pow_add, Nat.div_div_eq_div_mul]
  rw [hr, e]
  have : i = 0 ∨ i = 1 ∨ i = 2 ∨ i = 3 ∨ i = 4 ∨ i = 5 ∨ i = 6 ∨ i = 7 ∨ i = 8 := by omega
  generalize lowDig a k = V
  rcases this with rfl | rfl | rfl | rfl | rfl | rfl | rfl | rfl | rfl <;> simp <;> omega
theorem group_next {a k : Nat} : lowDig a k / 1000000000 = lowDig a (k + 9) := by
  unfold lowDig; rw [Nat.pow_add, ← Nat.div_div_eq_div_mul]
theorem owns_take {w : World} {base g n m cap : Nat} {l : List UInt8} (h : w.ownsRow base 5 1 (.slice (some ⟨g, 0, none⟩) n cap) n (cellsB l)) (hm : m ≤ n) : w.ownsRow base 5 1 (.slice (some ⟨g, 0, none⟩) m cap) m (cellsB (l.take m)) := by
  obtain ⟨h1, h2⟩ := h
  have hl : l.length = n := by simpa [cellsB_length] using h1
  rcases h2 with ⟨h3, _⟩ | ⟨g', cap', cur, hv, hb, hh, hnc, hcm, hcs, ht⟩
  · cases h3
  · injection hv with e1 e2 e3
    injection e1 with e1
    injection e1 with e1
    subst e1
    subst e3
    refine ⟨by rw [cellsB_length, List.length_take]; omega, .inr ⟨g, cap, cur, rfl, hb, hh, by omega, hcm, hcs, ?_⟩⟩
    have : (cellsB l).take (m * 1) = cellsB (l.take m) := by simp [cellsB]
    rw [← this, ← ht, List.take_take, Nat.min_eq_left (by omega)]

theorem own_ne {w : World} {base n g : Nat} {v : Value} {xs : List Value} {ds : List Nat} (h : w.ownsRow base 5 1 v n xs) (hd : Dg w g ds) : v.ownBlock ≠ some g := by
  rcases h.2 with ⟨rfl, _⟩ | ⟨g', cap, cur, rfl, _, hh, _⟩
  · simp [Value.ownBlock]
  · intro e
    have e2 : g' = g := by simpa [Value.ownBlock] using e
    subst e2
    unfold Dg at hd
    rw [hh] at hd
    injection hd with hd
    injection hd with _ ht
    exact absurd ht (by decide)
def sliceLen (v : Value) : Nat := match v with
  | .slice _ n _ => n
  | _ => 0
def E309 : Nat := 309
theorem top_dec : Top < 10 ^ E309 := by decide +kernel
theorem low_pos {a k : Nat} (ha : a < Top) (h : lowDig a k ≠ 0) : k < 309 := by
  apply Decidable.byContradiction
  intro hc
  apply h
  unfold lowDig
  refine Nat.div_eq_of_lt (Nat.lt_of_lt_of_le ha (Nat.le_trans (Nat.le_of_lt top_dec) (Nat.pow_le_pow_right (by decide) ?_)))
  unfold E309
  omega
theorem digit_byte10 (d : Nat) (h : d < 10) : ((UInt8.ofNat (48 + d)).toNat : Int) = 48 + (d : Int) := by rw [UInt8.toNat_ofNat']; omega
theorem new_cell {wr : World} (C : Array Value) (u : Value) (t : TypeId) (hC : C[0]? = some u) : ∀ (j : Nat) (v : Value), [u][j]? = some v → (wr.alloc (.cells C t)).cell? (Addr.add ⟨wr.heap.size, 0, none⟩ j) = some v := by
  intro j v hj
  match j, hj with
  | 0, hj =>
    simp at hj; subst hj
    rw [show Addr.add ⟨wr.heap.size, 0, none⟩ 0 = ⟨wr.heap.size, 0, none⟩ from rfl, World.cell?_alloc_mark]
    exact hC
theorem one_cell (k : IntKind) (n : Int) : ∀ u ∈ [Value.int k n], u.oneCell' = true := by intro u hu; simp at hu; subst hu; rfl

end Go.Proofs.YtmiafkbjmkaebaaGreat
