/-
  The contract of dominolaw01.Few.
-/
import Derived.Test.YtppdolmeeiookaaGreatAwake
namespace Go.Proofs.YtppdolmeeiookaaGreat
open Go.RowKit Num

end Go.Proofs.YtppdolmeeiookaaGreat
