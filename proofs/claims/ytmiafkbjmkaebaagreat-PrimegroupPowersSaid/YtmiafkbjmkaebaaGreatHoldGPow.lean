/-
  PrimegroupPowers returns true for all arguments: Power returns the power of an element, or the specified error. No condition.
-/
import Derived.Test.YtmiafkbjmkaebaaGreatLiftGPow
import Derived.Test.YtmiafkbjmkaebaaGreatRows
import Derived.ProofKit
namespace Go.Proofs.YtmiafkbjmkaebaaGreat
open Go.RowKit Num Go.ChangeShapes Go.WideShapes Go.ChangeAt
open Go.ChangeMaps (open_string shut_string)

theorem primegroupPowers_holds : Rows.PrimegroupPowersSaid :=
  OpenClaim.holds_of_wide 6 Tryz.f6 rfl rfl rfl rfl rfl rfl rfl ⟨rfl, rfl, rfl, rfl, rfl⟩ rfl rfl rfl rfl rfl (by kernel_rfl) Tryz.func6 (by kernel_rfl)
    (of_decide_eq_true (by kernel_rfl)) (by unfold Func.isWrapper; first | (rw [if_pos (by decide +kernel)]; kernel_rfl) | (rw [if_neg (by decide +kernel)]; exact ⟨rfl, rfl⟩))
    (fun os started H enc _ => primegroupPowers_lifted os started H enc)
end Go.Proofs.YtmiafkbjmkaebaaGreat
