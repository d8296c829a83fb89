/-
  PrimeStrong returns true for all arguments: Strong reports whether a number is a strong probable prime to a base, or returns the error. No condition.
-/
import Derived.Test.YtnnohjabneepiaaLiftPStr
import Derived.Test.YtnnohjabneepiaaRows
import Derived.ProofKit
namespace Go.Proofs.Ytnnohjabneepiaa
open Go.RowKit Num Go.ChangeShapes Go.WideShapes Go.ChangeAt
open Go.ChangeMaps (open_string shut_string)

theorem primeStrong_holds : Rows.PrimeStrongSaid :=
  OpenClaim.holds_of_wide 5 Try.f5 rfl rfl rfl rfl rfl rfl rfl ⟨rfl, rfl, rfl, rfl, rfl⟩ rfl rfl rfl rfl rfl (by kernel_rfl) Try.func5 (by kernel_rfl)
    (of_decide_eq_true (by kernel_rfl)) (by unfold Func.isWrapper; first | (rw [if_pos (by decide +kernel)]; kernel_rfl) | (rw [if_neg (by decide +kernel)]; exact ⟨rfl, rfl⟩))
    (fun os started H enc _ => primeStrong_lifted os started H enc)
end Go.Proofs.Ytnnohjabneepiaa
