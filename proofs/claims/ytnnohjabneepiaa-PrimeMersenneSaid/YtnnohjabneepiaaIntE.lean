/-
  The contracts of Add of integer and of the reference: numbers of different signs, and what is no integer. The contracts of Add of integer and of the reference: numbers of different signs, and what is no integer. The contracts of Add, at what is no integer, and of Sub, of integer and of the reference.
-/
import Derived.Test.YtnnohjabneepiaaIntA
import Derived.Test.YtnnohjabneepiaaRefA
namespace Go.Proofs.Ytnnohjabneepiaa
open Go.RowKit Num

theorem cmp_ge {a b : Nat} (h : b ≤ a) : 0 ≤ cmpN a b := by unfold cmpN; rw [if_neg (by omega)]; split <;> omega
theorem cmp_lt {a b : Nat} (h : a < b) : cmpN a b = -1 := by unfold cmpN; rw [if_pos h]

end Go.Proofs.Ytnnohjabneepiaa

namespace Go.Proofs.Ytnnohjabneepiaa
open Go.RowKit Num

theorem swap_facts {w : World} {a b : Nat} (hne : a ≠ b) {u0 u1 u3 : Value} (h0 : w.cell? ⟨a, 0, none⟩ = some u0) (h1 : w.cell? ⟨a, 1, none⟩ = some u1) (h3 : w.cell? ⟨b, 1, none⟩ = some u3) (v0 v1 v2 v3 : Value) :
    ((((w.setCell ⟨a, 0, none⟩ v0).setCell ⟨a, 1, none⟩ v1).setCell ⟨b, 0, none⟩ v2).setCell ⟨b, 1, none⟩ v3).cell? ⟨a, 0, none⟩ = some v0 ∧
    ((((w.setCell ⟨a, 0, none⟩ v0).setCell ⟨a, 1, none⟩ v1).setCell ⟨b, 0, none⟩ v2).setCell ⟨b, 1, none⟩ v3).cell? ⟨a, 1, none⟩ = some v1 ∧
    ((((w.setCell ⟨a, 0, none⟩ v0).setCell ⟨a, 1, none⟩ v1).setCell ⟨b, 0, none⟩ v2).setCell ⟨b, 1, none⟩ v3).cell? ⟨b, 1, none⟩ = some v3 ∧
    ∀ c o, c ≠ a → c ≠ b → ((((w.setCell ⟨a, 0, none⟩ v0).setCell ⟨a, 1, none⟩ v1).setCell ⟨b, 0, none⟩ v2).setCell ⟨b, 1, none⟩ v3).cell? ⟨c, o, none⟩ = w.cell? ⟨c, o, none⟩ := by
  have n1 : (⟨b, 0, none⟩ : Addr) ≠ ⟨a, 0, none⟩ := fun e => hne (by injection e with e; exact e.symm)
  have n2 : (⟨b, 1, none⟩ : Addr) ≠ ⟨a, 0, none⟩ := fun e => hne (by injection e with e; exact e.symm)
  have n3 : (⟨b, 0, none⟩ : Addr) ≠ ⟨a, 1, none⟩ := fun e => hne (by injection e with e; exact e.symm)
  have n4 : (⟨b, 1, none⟩ : Addr) ≠ ⟨a, 1, none⟩ := fun e => hne (by injection e with e; exact e.symm)
  have m1 : (⟨a, 1, none⟩ : Addr) ≠ ⟨a, 0, none⟩ := fun e => by injection e with _ e; cases e
  have m2 : (⟨b, 0, none⟩ : Addr) ≠ ⟨b, 1, none⟩ := fun e => by injection e with _ e; cases e
  have m3 : (⟨a, 0, none⟩ : Addr) ≠ ⟨a, 1, none⟩ := fun e => by injection e with _ e; cases e
  refine ⟨?_, ?_, ?_, fun c o ha hb => ?_⟩
  · rw [World.cell?_setCell_other (h := n2), World.cell?_setCell_other (h := n1), World.cell?_setCell_other (h := m1)]
    exact World.cell?_setCell_same _ _ _ h0
  · rw [World.cell?_setCell_other (h := n4), World.cell?_setCell_other (h := n3)]
    exact World.cell?_setCell_same _ _ _ (by rw [World.cell?_setCell_other (h := m3)]; exact h1)
  · exact World.cell?_setCell_same _ _ _ (by rw [World.cell?_setCell_other (h := m2), World.cell?_setCell_other (h := n4.symm), World.cell?_setCell_other (h := n2.symm)]; exact h3)
  · have e1 : ∀ i, (⟨a, i, none⟩ : Addr) ≠ ⟨c, o, none⟩ := fun i e => ha (by injection e with e; exact e.symm)
    have e2 : ∀ i, (⟨b, i, none⟩ : Addr) ≠ ⟨c, o, none⟩ := fun i e => hb (by injection e with e; exact e.symm)
    rw [World.cell?_setCell_other (h := e2 1), World.cell?_setCell_other (h := e2 0), World.cell?_setCell_other (h := e1 1), World.cell?_setCell_other (h := e1 0)]

end Go.Proofs.Ytnnohjabneepiaa

namespace Go.Proofs.Ytnnohjabneepiaa
open Go.RowKit Num

/-- Add at two integers, of any size. -/
def addRes (z : Int) : Int × Int := if zabs z < Top then (z, 0) else (0, 5)
end Go.Proofs.Ytnnohjabneepiaa
