/-
  The claim of dominolaw09.PrimegroupLaws.
-/
import Derived.Test.YtmiafkbjmkaebaaLiftGLws
import Derived.Test.YtmiafkbjmkaebaaRows
import Derived.ProofKit
namespace Go.Proofs.Ytmiafkbjmkaebaa
open Go.RowKit Num Go.ChangeShapes Go.WideShapes Go.ChangeAt
open Go.ChangeMaps (open_string shut_string)

theorem primegroupLaws_holds : Rows.PrimegroupLawsSaid :=
  OpenClaim.holds_of_wide 3 Try.f3 rfl rfl rfl rfl rfl rfl rfl ⟨rfl, rfl, rfl, rfl, rfl⟩ rfl rfl rfl rfl rfl (by kernel_rfl) Try.func3 (by kernel_rfl)
    (of_decide_eq_true (by kernel_rfl)) (by unfold Func.isWrapper; first | (rw [if_pos (by decide +kernel)]; kernel_rfl) | (rw [if_neg (by decide +kernel)]; exact ⟨rfl, rfl⟩))
    (fun os started H enc _ => primegroupLaws_lifted os started H enc)
end Go.Proofs.Ytmiafkbjmkaebaa
