/-
  The contract of integer.reduce.
-/
import Derived.Test.YtnnohjabneepiaaIntN
import Derived.Deep.Cut
import Derived.Deep.CutRange
namespace Go.Proofs.Ytnnohjabneepiaa
open Go.RowKit Num

/-- An integer lies in a block. -/
def Lies (wx : World) (g : Nat) (z : Int) : Prop := wx.cell? ⟨g, 0, none⟩ = some (.bool (zneg z)) ∧ wx.cell? ⟨g, 1, none⟩ = some (.string (bs (zabs z)))

end Go.Proofs.Ytnnohjabneepiaa
