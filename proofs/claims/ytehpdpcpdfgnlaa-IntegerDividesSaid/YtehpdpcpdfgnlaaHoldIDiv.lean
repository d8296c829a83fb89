/-
  IntegerDivides returns true for all arguments: DivMod, Mod and Divide agree with the reference. No condition.
-/
import Derived.Test.YtehpdpcpdfgnlaaLiftIDiv
import Derived.Test.YtehpdpcpdfgnlaaRows
import Derived.ProofKit
namespace Go.Proofs.Ytehpdpcpdfgnlaa
open Go.RowKit Num Go.ChangeShapes Go.WideShapes Go.ChangeAt
open Go.ChangeMaps (open_string shut_string)

theorem integerDivides_holds : Rows.IntegerDividesSaid :=
  OpenClaim.holds_of_wide 7 Try.f7 rfl rfl rfl rfl rfl rfl rfl ⟨rfl, rfl, rfl, rfl, rfl⟩ rfl rfl rfl rfl rfl (by kernel_rfl) Try.func7 (by kernel_rfl)
    (of_decide_eq_true (by kernel_rfl)) (by unfold Func.isWrapper; first | (rw [if_pos (by decide +kernel)]; kernel_rfl) | (rw [if_neg (by decide +kernel)]; exact ⟨rfl, rfl⟩))
    (fun os started H enc _ => integerDivides_lifted os started H enc)
end Go.Proofs.Ytehpdpcpdfgnlaa
