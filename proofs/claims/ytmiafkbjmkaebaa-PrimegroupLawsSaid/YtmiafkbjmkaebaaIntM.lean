/-
  The contracts of Mod and Divide, of integer and of the reference.
-/
import Derived.Test.YtmiafkbjmkaebaaIntI
namespace Go.Proofs.Ytmiafkbjmkaebaa
open Go.RowKit Num

end Go.Proofs.Ytmiafkbjmkaebaa
