/-
  ModularAdds returns true for all arguments: Add, Sub and Mul return the remainders of sums, differences and products, or the specified error. No condition.
-/
import Derived.Test.YtppdolmeeiookaaGreatLiftMAdds
import Derived.Test.YtppdolmeeiookaaGreatRows
import Derived.ProofKit
namespace Go.Proofs.YtppdolmeeiookaaGreat
open Go.RowKit Num Go.ChangeShapes Go.WideShapes Go.ChangeAt
open Go.ChangeMaps (open_string shut_string)

theorem modularAdds_holds : Rows.ModularAddsSaid :=
  OpenClaim.holds_of_wide 3 Tryz.f3 rfl rfl rfl rfl rfl rfl rfl ⟨rfl, rfl, rfl, rfl, rfl⟩ rfl rfl rfl rfl rfl (by kernel_rfl) Tryz.func3 (by kernel_rfl)
    (of_decide_eq_true (by kernel_rfl)) (by unfold Func.isWrapper; first | (rw [if_pos (by decide +kernel)]; kernel_rfl) | (rw [if_neg (by decide +kernel)]; exact ⟨rfl, rfl⟩))
    (fun os started H enc _ => modularAdds_lifted os started H enc)
end Go.Proofs.YtppdolmeeiookaaGreat
