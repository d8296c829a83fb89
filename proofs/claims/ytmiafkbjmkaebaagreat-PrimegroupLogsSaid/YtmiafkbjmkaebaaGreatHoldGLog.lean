/-
  The claim of dominolaw09.PrimegroupLogs.
-/
import Derived.Test.YtmiafkbjmkaebaaGreatLiftGLog
import Derived.Test.YtmiafkbjmkaebaaGreatRows
import Derived.ProofKit
namespace Go.Proofs.YtmiafkbjmkaebaaGreat
open Go.RowKit Num Go.ChangeShapes Go.WideShapes Go.ChangeAt
open Go.ChangeMaps (open_string shut_string)

theorem primegroupLogs_holds : Rows.PrimegroupLogsSaid :=
  OpenClaim.holds_of_wide 7 Tryz.f7 rfl rfl rfl rfl rfl rfl rfl ⟨rfl, rfl, rfl, rfl, rfl⟩ rfl rfl rfl rfl rfl (by kernel_rfl) Tryz.func7 (by kernel_rfl)
    (of_decide_eq_true (by kernel_rfl)) (by unfold Func.isWrapper; first | (rw [if_pos (by decide +kernel)]; kernel_rfl) | (rw [if_neg (by decide +kernel)]; exact ⟨rfl, rfl⟩))
    (fun os started H enc _ => primegroupLogs_lifted os started H enc)
end Go.Proofs.YtmiafkbjmkaebaaGreat
