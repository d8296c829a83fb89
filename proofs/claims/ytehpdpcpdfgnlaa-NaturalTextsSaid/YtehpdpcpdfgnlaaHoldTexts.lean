/-
  NaturalTexts returns true for every string: Text returns the decimal digits of every number, and Parse of them the number. No condition.
-/
import Derived.Test.YtehpdpcpdfgnlaaLiftTexts
import Derived.Test.YtehpdpcpdfgnlaaRows
import Derived.ProofKit
namespace Go.Proofs.Ytehpdpcpdfgnlaa
open Go.RowKit Num Go.ChangeShapes Go.WideShapes Go.ChangeAt
open Go.ChangeMaps (open_string shut_string)

theorem naturalTexts_holds : Rows.NaturalTextsSaid :=
  OpenClaim.holds_of_wide 3 Try.f3 rfl rfl rfl rfl rfl rfl rfl ⟨rfl, rfl, rfl, rfl, rfl⟩ rfl rfl rfl rfl rfl (by kernel_rfl) Try.func3 (by kernel_rfl)
    (of_decide_eq_true (by kernel_rfl)) (by unfold Func.isWrapper; first | (rw [if_pos (by decide +kernel)]; kernel_rfl) | (rw [if_neg (by decide +kernel)]; exact ⟨rfl, rfl⟩))
    (fun os started H enc _ => naturalTexts_lifted os started H enc)
end Go.Proofs.Ytehpdpcpdfgnlaa
