/-
  PrimeTests returns true for all arguments: Is reports for every number whether it passes the tests to the first twelve primes, or returns the error. No condition.
-/
import Derived.Test.YtnnohjabneepiaaLiftPTst
import Derived.Test.YtnnohjabneepiaaRows
import Derived.ProofKit
namespace Go.Proofs.Ytnnohjabneepiaa
open Go.RowKit Num Go.ChangeShapes Go.WideShapes Go.ChangeAt
open Go.ChangeMaps (open_string shut_string)

theorem primeTests_holds : Rows.PrimeTestsSaid :=
  OpenClaim.holds_of_wide 3 Try.f3 rfl rfl rfl rfl rfl rfl rfl ⟨rfl, rfl, rfl, rfl, rfl⟩ rfl rfl rfl rfl rfl (by kernel_rfl) Try.func3 (by kernel_rfl)
    (of_decide_eq_true (by kernel_rfl)) (by unfold Func.isWrapper; first | (rw [if_pos (by decide +kernel)]; kernel_rfl) | (rw [if_neg (by decide +kernel)]; exact ⟨rfl, rfl⟩))
    (fun os started H enc _ => primeTests_lifted os started H enc)
end Go.Proofs.Ytnnohjabneepiaa
