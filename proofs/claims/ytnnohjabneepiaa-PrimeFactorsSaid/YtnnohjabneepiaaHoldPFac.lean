/-
  PrimeFactors returns true for all arguments: Factors returns the prime factors in ascending order, or the error. No condition.
-/
import Derived.Test.YtnnohjabneepiaaLiftPFac
import Derived.Test.YtnnohjabneepiaaRows
import Derived.ProofKit
namespace Go.Proofs.Ytnnohjabneepiaa
open Go.RowKit Num Go.ChangeShapes Go.WideShapes Go.ChangeAt
open Go.ChangeMaps (open_string shut_string)

theorem primeFactors_holds : Rows.PrimeFactorsSaid :=
  OpenClaim.holds_of_wide 10 Try.f10 rfl rfl rfl rfl rfl rfl rfl ⟨rfl, rfl, rfl, rfl, rfl⟩ rfl rfl rfl rfl rfl (by kernel_rfl) Try.func10 (by kernel_rfl)
    (of_decide_eq_true (by kernel_rfl)) (by unfold Func.isWrapper; first | (rw [if_pos (by decide +kernel)]; kernel_rfl) | (rw [if_neg (by decide +kernel)]; exact ⟨rfl, rfl⟩))
    (fun os started H enc _ => primeFactors_lifted os started H enc)
end Go.Proofs.Ytnnohjabneepiaa
