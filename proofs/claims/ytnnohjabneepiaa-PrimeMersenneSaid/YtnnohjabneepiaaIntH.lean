/-
  The contracts of Sub, of integer and of the reference.
-/
import Derived.Test.YtnnohjabneepiaaIntE
namespace Go.Proofs.Ytnnohjabneepiaa
open Go.RowKit Num

end Go.Proofs.Ytnnohjabneepiaa
