/-
  ModularRemainders returns true for all arguments: the number that Join returns has both remainders, no smaller one has them, and Join fails only if there is none. No condition.
-/
import Derived.Test.YtppdolmeeiookaaLiftMRem
import Derived.Test.YtppdolmeeiookaaRows
import Derived.ProofKit
namespace Go.Proofs.Ytppdolmeeiookaa
open Go.RowKit Num Go.ChangeShapes Go.WideShapes Go.ChangeAt
open Go.ChangeMaps (open_string shut_string)

theorem modularRemainders_holds : Rows.ModularRemaindersSaid :=
  OpenClaim.holds_of_wide 3 Try.f3 rfl rfl rfl rfl rfl rfl rfl ⟨rfl, rfl, rfl, rfl, rfl⟩ rfl rfl rfl rfl rfl (by kernel_rfl) Try.func3 (by kernel_rfl)
    (of_decide_eq_true (by kernel_rfl)) (by unfold Func.isWrapper; first | (rw [if_pos (by decide +kernel)]; kernel_rfl) | (rw [if_neg (by decide +kernel)]; exact ⟨rfl, rfl⟩))
    (fun os started H enc _ => modularRemainders_lifted os started H enc)
end Go.Proofs.Ytppdolmeeiookaa
