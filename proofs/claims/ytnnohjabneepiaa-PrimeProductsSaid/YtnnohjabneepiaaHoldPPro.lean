/-
  PrimeProducts returns true for all arguments: the factors of a number are primes in ascending order, and their product is the number. No condition.
-/
import Derived.Test.YtnnohjabneepiaaLiftPPro
import Derived.Test.YtnnohjabneepiaaRows
import Derived.ProofKit
namespace Go.Proofs.Ytnnohjabneepiaa
open Go.RowKit Num Go.ChangeShapes Go.WideShapes Go.ChangeAt
open Go.ChangeMaps (open_string shut_string)

theorem primeProducts_holds : Rows.PrimeProductsSaid :=
  OpenClaim.holds_of_wide 11 Try.f11 rfl rfl rfl rfl rfl rfl rfl ⟨rfl, rfl, rfl, rfl, rfl⟩ rfl rfl rfl rfl rfl (by kernel_rfl) Try.func11 (by kernel_rfl)
    (of_decide_eq_true (by kernel_rfl)) (by unfold Func.isWrapper; first | (rw [if_pos (by decide +kernel)]; kernel_rfl) | (rw [if_neg (by decide +kernel)]; exact ⟨rfl, rfl⟩))
    (fun os started H enc _ => primeProducts_lifted os started H enc)
end Go.Proofs.Ytnnohjabneepiaa
