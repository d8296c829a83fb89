/-
  ModularExponents returns true for all arguments: powers with a sum of exponents are products, powers with a product are repeated powers, and a negative exponent yields the inverse. No condition.
-/
import Derived.Test.YtppdolmeeiookaaLiftMExp
import Derived.Test.YtppdolmeeiookaaRows
import Derived.ProofKit
namespace Go.Proofs.Ytppdolmeeiookaa
open Go.RowKit Num Go.ChangeShapes Go.WideShapes Go.ChangeAt
open Go.ChangeMaps (open_string shut_string)

theorem modularExponents_holds : Rows.ModularExponentsSaid :=
  OpenClaim.holds_of_wide 7 Try.f7 rfl rfl rfl rfl rfl rfl rfl ⟨rfl, rfl, rfl, rfl, rfl⟩ rfl rfl rfl rfl rfl (by kernel_rfl) Try.func7 (by kernel_rfl)
    (of_decide_eq_true (by kernel_rfl)) (by unfold Func.isWrapper; first | (rw [if_pos (by decide +kernel)]; kernel_rfl) | (rw [if_neg (by decide +kernel)]; exact ⟨rfl, rfl⟩))
    (fun os started H enc _ => modularExponents_lifted os started H enc)
end Go.Proofs.Ytppdolmeeiookaa
