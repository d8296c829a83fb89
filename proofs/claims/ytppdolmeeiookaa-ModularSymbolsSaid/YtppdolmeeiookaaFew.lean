/-
  The contract of dominolaw01.Few.
-/
import Derived.Test.YtppdolmeeiookaaAwake
namespace Go.Proofs.Ytppdolmeeiookaa
open Go.RowKit Num

end Go.Proofs.Ytppdolmeeiookaa
