/-
  PrimegroupChecks returns true for all arguments: Check returns the specified error for every group. No condition.
-/
import Derived.Test.YtmiafkbjmkaebaaGreatLiftGChk
import Derived.Test.YtmiafkbjmkaebaaGreatRows
import Derived.ProofKit
namespace Go.Proofs.YtmiafkbjmkaebaaGreat
open Go.RowKit Num Go.ChangeShapes Go.WideShapes Go.ChangeAt
open Go.ChangeMaps (open_string shut_string)

theorem primegroupChecks_holds : Rows.PrimegroupChecksSaid :=
  OpenClaim.holds_of_wide 3 Tryz.f3 rfl rfl rfl rfl rfl rfl rfl ⟨rfl, rfl, rfl, rfl, rfl⟩ rfl rfl rfl rfl rfl (by kernel_rfl) Tryz.func3 (by kernel_rfl)
    (of_decide_eq_true (by kernel_rfl)) (by unfold Func.isWrapper; first | (rw [if_pos (by decide +kernel)]; kernel_rfl) | (rw [if_neg (by decide +kernel)]; exact ⟨rfl, rfl⟩))
    (fun os started H enc _ => primegroupChecks_lifted os started H enc)
end Go.Proofs.YtmiafkbjmkaebaaGreat
