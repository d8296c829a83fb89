/-
  IntegerRing returns true for all arguments: the laws of arithmetic and of the order hold. No condition.
-/
import Derived.Test.YtbkbjjdjgiapdaaLiftIRinh
import Derived.Test.YtbkbjjdjgiapdaaRows
import Derived.ProofKit
namespace Go.Proofs.Ytbkbjjdjgiapdaa
open Go.RowKit Num Go.ChangeShapes Go.WideShapes Go.ChangeAt
open Go.ChangeMaps (open_string shut_string)

theorem integerRing_holds : Rows.IntegerRingSaid :=
  OpenClaim.holds_of_wide 11 Try.f11 rfl rfl rfl rfl rfl rfl rfl ⟨rfl, rfl, rfl, rfl, rfl⟩ rfl rfl rfl rfl rfl (by kernel_rfl) Try.func11 (by kernel_rfl)
    (of_decide_eq_true (by kernel_rfl)) (by unfold Func.isWrapper; first | (rw [if_pos (by decide +kernel)]; kernel_rfl) | (rw [if_neg (by decide +kernel)]; exact ⟨rfl, rfl⟩))
    (fun os started H enc _ => integerRing_lifted os started H enc)
end Go.Proofs.Ytbkbjjdjgiapdaa
