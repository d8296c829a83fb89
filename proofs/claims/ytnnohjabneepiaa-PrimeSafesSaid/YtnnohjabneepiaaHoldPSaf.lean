/-
  PrimeSafes returns true for all arguments: Safe reports for every number whether it is a safe prime, or returns the error. No condition.
-/
import Derived.Test.YtnnohjabneepiaaLiftPSaf
import Derived.Test.YtnnohjabneepiaaRows
import Derived.ProofKit
namespace Go.Proofs.Ytnnohjabneepiaa
open Go.RowKit Num Go.ChangeShapes Go.WideShapes Go.ChangeAt
open Go.ChangeMaps (open_string shut_string)

theorem primeSafes_holds : Rows.PrimeSafesSaid :=
  OpenClaim.holds_of_wide 9 Try.f9 rfl rfl rfl rfl rfl rfl rfl ⟨rfl, rfl, rfl, rfl, rfl⟩ rfl rfl rfl rfl rfl (by kernel_rfl) Try.func9 (by kernel_rfl)
    (of_decide_eq_true (by kernel_rfl)) (by unfold Func.isWrapper; first | (rw [if_pos (by decide +kernel)]; kernel_rfl) | (rw [if_neg (by decide +kernel)]; exact ⟨rfl, rfl⟩))
    (fun os started H enc _ => primeSafes_lifted os started H enc)
end Go.Proofs.Ytnnohjabneepiaa
