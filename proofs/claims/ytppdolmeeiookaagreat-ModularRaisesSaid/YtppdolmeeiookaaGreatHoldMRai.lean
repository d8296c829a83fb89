/-
  ModularRaises returns true for all arguments: Exp and Power return the remainders of powers, also for negative exponents, or the specified error. No condition.
-/
import Derived.Test.YtppdolmeeiookaaGreatLiftMRai
import Derived.Test.YtppdolmeeiookaaGreatRows
import Derived.ProofKit
namespace Go.Proofs.YtppdolmeeiookaaGreat
open Go.RowKit Num Go.ChangeShapes Go.WideShapes Go.ChangeAt
open Go.ChangeMaps (open_string shut_string)

theorem modularRaises_holds : Rows.ModularRaisesSaid :=
  OpenClaim.holds_of_wide 4 Tryz.f4 rfl rfl rfl rfl rfl rfl rfl ⟨rfl, rfl, rfl, rfl, rfl⟩ rfl rfl rfl rfl rfl (by kernel_rfl) Tryz.func4 (by kernel_rfl)
    (of_decide_eq_true (by kernel_rfl)) (by unfold Func.isWrapper; first | (rw [if_pos (by decide +kernel)]; kernel_rfl) | (rw [if_neg (by decide +kernel)]; exact ⟨rfl, rfl⟩))
    (fun os started H enc _ => modularRaises_lifted os started H enc)
end Go.Proofs.YtppdolmeeiookaaGreat
