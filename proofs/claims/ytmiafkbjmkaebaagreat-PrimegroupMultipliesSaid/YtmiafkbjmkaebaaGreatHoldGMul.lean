/-
  PrimegroupMultiplies returns true for all arguments: Mul returns the product of two elements, or the specified error. No condition.
-/
import Derived.Test.YtmiafkbjmkaebaaGreatLiftGMul
import Derived.Test.YtmiafkbjmkaebaaGreatRows
import Derived.ProofKit
namespace Go.Proofs.YtmiafkbjmkaebaaGreat
open Go.RowKit Num Go.ChangeShapes Go.WideShapes Go.ChangeAt
open Go.ChangeMaps (open_string shut_string)

theorem primegroupMultiplies_holds : Rows.PrimegroupMultipliesSaid :=
  OpenClaim.holds_of_wide 5 Tryz.f5 rfl rfl rfl rfl rfl rfl rfl ⟨rfl, rfl, rfl, rfl, rfl⟩ rfl rfl rfl rfl rfl (by kernel_rfl) Tryz.func5 (by kernel_rfl)
    (of_decide_eq_true (by kernel_rfl)) (by unfold Func.isWrapper; first | (rw [if_pos (by decide +kernel)]; kernel_rfl) | (rw [if_neg (by decide +kernel)]; exact ⟨rfl, rfl⟩))
    (fun os started H enc _ => primegroupMultiplies_lifted os started H enc)
end Go.Proofs.YtmiafkbjmkaebaaGreat
