/-
  PrimegroupHas returns true for all arguments: Has and IsGenerator return the specified answers. No condition.
-/
import Derived.Test.YtmiafkbjmkaebaaGreatLiftGHas
import Derived.Test.YtmiafkbjmkaebaaGreatRows
import Derived.ProofKit
namespace Go.Proofs.YtmiafkbjmkaebaaGreat
open Go.RowKit Num Go.ChangeShapes Go.WideShapes Go.ChangeAt
open Go.ChangeMaps (open_string shut_string)

theorem primegroupHas_holds : Rows.PrimegroupHasSaid :=
  OpenClaim.holds_of_wide 4 Tryz.f4 rfl rfl rfl rfl rfl rfl rfl ⟨rfl, rfl, rfl, rfl, rfl⟩ rfl rfl rfl rfl rfl (by kernel_rfl) Tryz.func4 (by kernel_rfl)
    (of_decide_eq_true (by kernel_rfl)) (by unfold Func.isWrapper; first | (rw [if_pos (by decide +kernel)]; kernel_rfl) | (rw [if_neg (by decide +kernel)]; exact ⟨rfl, rfl⟩))
    (fun os started H enc _ => primegroupHas_lifted os started H enc)
end Go.Proofs.YtmiafkbjmkaebaaGreat
