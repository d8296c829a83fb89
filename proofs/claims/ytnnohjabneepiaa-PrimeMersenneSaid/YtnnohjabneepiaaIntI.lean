/-
  The contract of the closure in integer.DivMod. The contracts of DivMod of integer and of the reference. The contracts of DivMod of integer at 0 and at what is no integer, and of DivMod of the reference. The contracts of DivMod, of integer and of the reference, at 0 and at what is no integer.
-/
import Derived.Test.YtnnohjabneepiaaIntH
namespace Go.Proofs.Ytnnohjabneepiaa
open Go.RowKit Num

end Go.Proofs.Ytnnohjabneepiaa

namespace Go.Proofs.Ytnnohjabneepiaa
open Go.RowKit Num

theorem sg_zneg (x : Int) : sg (zneg x) * (zabs x : Int) = x := sg_of x
theorem dm_plain {x y : Int} {p : Bool} (hp : zneg x = p) (h0 : zabs y ≠ 0) (h : p = false ∨ zabs x % zabs y = 0) : sg (p != zneg y) * ((zabs x / zabs y : Nat) : Int) = x / y ∧ zabs x % zabs y = zabs (x % y) := by
  obtain ⟨h1, h2⟩ := euclid_plain p (zneg y) (zabs x) (zabs y) h0 h
  rw [← hp, sg_zneg, sg_zneg] at h1 h2
  rw [← hp]
  refine ⟨h1.symm, ?_⟩
  rw [h2, zabs_nat]
theorem dm_next {x y : Int} (hp : zneg x = true) (h0 : zabs y ≠ 0) (h : zabs x % zabs y ≠ 0) : sg (true != zneg y) * ((zabs x / zabs y + 1 : Nat) : Int) = x / y ∧ zabs y - zabs x % zabs y = zabs (x % y) := by
  obtain ⟨h1, h2⟩ := euclid_next (zneg y) (zabs x) (zabs y) h0 h
  rw [← hp, sg_zneg, sg_zneg] at h1 h2
  rw [← hp]
  refine ⟨h1.symm, ?_⟩
  rw [h2, zabs_nat]
theorem quot_next {a b : Nat} (ha : a < Top) (h : a % b ≠ 0) : a / b + 1 < Top := by
  by_cases h1 : b = 0
  · subst h1; simp at h ⊢; unfold Top; decide
  · by_cases h2 : b = 1
    · subst h2; omega
    · have h3 : a / b ≤ a / 2 := Nat.div_le_div_left (by omega) (by decide)
      have : 4 < Top := by unfold Top; decide
      omega

end Go.Proofs.Ytnnohjabneepiaa

namespace Go.Proofs.Ytnnohjabneepiaa
open Go.RowKit Num

end Go.Proofs.Ytnnohjabneepiaa

namespace Go.Proofs.Ytnnohjabneepiaa
open Go.RowKit Num

end Go.Proofs.Ytnnohjabneepiaa
