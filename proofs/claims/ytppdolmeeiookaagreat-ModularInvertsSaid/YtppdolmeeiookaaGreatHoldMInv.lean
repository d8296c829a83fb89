/-
  ModularInverts returns true for all arguments: Inverse returns the inverse of every number that has one, or the specified error. No condition.
-/
import Derived.Test.YtppdolmeeiookaaGreatLiftMInv
import Derived.Test.YtppdolmeeiookaaGreatRows
import Derived.ProofKit
namespace Go.Proofs.YtppdolmeeiookaaGreat
open Go.RowKit Num Go.ChangeShapes Go.WideShapes Go.ChangeAt
open Go.ChangeMaps (open_string shut_string)

theorem modularInverts_holds : Rows.ModularInvertsSaid :=
  OpenClaim.holds_of_wide 5 Tryz.f5 rfl rfl rfl rfl rfl rfl rfl ⟨rfl, rfl, rfl, rfl, rfl⟩ rfl rfl rfl rfl rfl (by kernel_rfl) Tryz.func5 (by kernel_rfl)
    (of_decide_eq_true (by kernel_rfl)) (by unfold Func.isWrapper; first | (rw [if_pos (by decide +kernel)]; kernel_rfl) | (rw [if_neg (by decide +kernel)]; exact ⟨rfl, rfl⟩))
    (fun os started H enc _ => modularInverts_lifted os started H enc)
end Go.Proofs.YtppdolmeeiookaaGreat
