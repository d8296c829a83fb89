/-
  ModularSymbols returns true for all arguments: the Jacobi symbol is the product of the Legendre symbols of the prime factors, found by trying all squares. No condition.
-/
import Derived.Test.YtppdolmeeiookaaLiftMSym
import Derived.Test.YtppdolmeeiookaaRows
import Derived.ProofKit
namespace Go.Proofs.Ytppdolmeeiookaa
open Go.RowKit Num Go.ChangeShapes Go.WideShapes Go.ChangeAt
open Go.ChangeMaps (open_string shut_string)

theorem modularSymbols_holds : Rows.ModularSymbolsSaid :=
  OpenClaim.holds_of_wide 5 Try.f5 rfl rfl rfl rfl rfl rfl rfl ⟨rfl, rfl, rfl, rfl, rfl⟩ rfl rfl rfl rfl rfl (by kernel_rfl) Try.func5 (by kernel_rfl)
    (of_decide_eq_true (by kernel_rfl)) (by unfold Func.isWrapper; first | (rw [if_pos (by decide +kernel)]; kernel_rfl) | (rw [if_neg (by decide +kernel)]; exact ⟨rfl, rfl⟩))
    (fun os started H enc _ => modularSymbols_lifted os started H enc)
end Go.Proofs.Ytppdolmeeiookaa
