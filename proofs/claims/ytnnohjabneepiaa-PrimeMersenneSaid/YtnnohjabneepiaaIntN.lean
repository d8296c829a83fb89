/-
  The contracts of Divide, of integer and of the reference. The contract of integer.advance.
-/
import Derived.Test.YtnnohjabneepiaaIntI
namespace Go.Proofs.Ytnnohjabneepiaa
open Go.RowKit Num

end Go.Proofs.Ytnnohjabneepiaa

namespace Go.Proofs.Ytnnohjabneepiaa
open Go.RowKit Num

theorem addRes_ok {z : Int} (h : zabs z < Top) : addRes z = (z, 0) := by unfold addRes; rw [if_pos h]
end Go.Proofs.Ytnnohjabneepiaa
