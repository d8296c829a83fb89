/-
  ModularRing returns true for all arguments: the calculation modulo m is commutative, associative and distributive, and Sub inverts Add. No condition.
-/
import Derived.Test.YtppdolmeeiookaaLiftMRing
import Derived.Test.YtppdolmeeiookaaRows
import Derived.ProofKit
namespace Go.Proofs.Ytppdolmeeiookaa
open Go.RowKit Num Go.ChangeShapes Go.WideShapes Go.ChangeAt
open Go.ChangeMaps (open_string shut_string)

theorem modularRing_holds : Rows.ModularRingSaid :=
  OpenClaim.holds_of_wide 6 Try.f6 rfl rfl rfl rfl rfl rfl rfl ⟨rfl, rfl, rfl, rfl, rfl⟩ rfl rfl rfl rfl rfl (by kernel_rfl) Try.func6 (by kernel_rfl)
    (of_decide_eq_true (by kernel_rfl)) (by unfold Func.isWrapper; first | (rw [if_pos (by decide +kernel)]; kernel_rfl) | (rw [if_neg (by decide +kernel)]; exact ⟨rfl, rfl⟩))
    (fun os started H enc _ => modularRing_lifted os started H enc)
end Go.Proofs.Ytppdolmeeiookaa
