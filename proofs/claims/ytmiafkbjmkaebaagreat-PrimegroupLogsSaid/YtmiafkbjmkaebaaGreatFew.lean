/-
  The contract of dominolaw01.Few.
-/
import Derived.Test.YtmiafkbjmkaebaaGreatAwake
namespace Go.Proofs.YtmiafkbjmkaebaaGreat
open Go.RowKit Num

end Go.Proofs.YtmiafkbjmkaebaaGreat
