/-
  The contract of dominolaw01.Few.
-/
import Derived.Test.YtnnohjabneepiaaAwake
namespace Go.Proofs.Ytnnohjabneepiaa
open Go.RowKit Num

end Go.Proofs.Ytnnohjabneepiaa
