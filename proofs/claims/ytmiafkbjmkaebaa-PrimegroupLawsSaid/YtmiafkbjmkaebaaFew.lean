/-
  The contract of dominolaw01.Few.
-/
import Derived.Test.YtmiafkbjmkaebaaAwake
namespace Go.Proofs.Ytmiafkbjmkaebaa
open Go.RowKit Num

end Go.Proofs.Ytmiafkbjmkaebaa
