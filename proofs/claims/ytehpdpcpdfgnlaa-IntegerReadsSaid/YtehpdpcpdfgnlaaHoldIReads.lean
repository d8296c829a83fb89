/-
  IntegerReads returns true for all arguments: Valid, Small, From, Of, Neg and Cmp agree with the reference. No condition.
-/
import Derived.Test.YtehpdpcpdfgnlaaLiftIReads
import Derived.Test.YtehpdpcpdfgnlaaRows
import Derived.ProofKit
namespace Go.Proofs.Ytehpdpcpdfgnlaa
open Go.RowKit Num Go.ChangeShapes Go.WideShapes Go.ChangeAt
open Go.ChangeMaps (open_string shut_string)

theorem integerReads_holds : Rows.IntegerReadsSaid :=
  OpenClaim.holds_of_wide 5 Try.f5 rfl rfl rfl rfl rfl rfl rfl ⟨rfl, rfl, rfl, rfl, rfl⟩ rfl rfl rfl rfl rfl (by kernel_rfl) Try.func5 (by kernel_rfl)
    (of_decide_eq_true (by kernel_rfl)) (by unfold Func.isWrapper; first | (rw [if_pos (by decide +kernel)]; kernel_rfl) | (rw [if_neg (by decide +kernel)]; exact ⟨rfl, rfl⟩))
    (fun os started H enc _ => integerReads_lifted os started H enc)
end Go.Proofs.Ytehpdpcpdfgnlaa
