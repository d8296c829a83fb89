/-
  IntegerBezout returns true for every two strings: the coefficients of Extended yield the greatest common divisor, which divides both numbers, and the first one is in its range. No condition.
-/
import Derived.Test.YtehpdpcpdfgnlaaLiftIBez
import Derived.Test.YtehpdpcpdfgnlaaRows
import Derived.ProofKit
namespace Go.Proofs.Ytehpdpcpdfgnlaa
open Go.RowKit Num Go.ChangeShapes Go.WideShapes Go.ChangeAt
open Go.ChangeMaps (open_string shut_string)

theorem integerBezout_holds : Rows.IntegerBezoutSaid :=
  OpenClaim.holds_of_wide 13 Try.f13 rfl rfl rfl rfl rfl rfl rfl ⟨rfl, rfl, rfl, rfl, rfl⟩ rfl rfl rfl rfl rfl (by kernel_rfl) Try.func13 (by kernel_rfl)
    (of_decide_eq_true (by kernel_rfl)) (by unfold Func.isWrapper; first | (rw [if_pos (by decide +kernel)]; kernel_rfl) | (rw [if_neg (by decide +kernel)]; exact ⟨rfl, rfl⟩))
    (fun os started H enc _ => integerBezout_lifted os started H enc)
end Go.Proofs.Ytehpdpcpdfgnlaa
