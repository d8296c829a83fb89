/-
  NaturalParses returns true for every string: Parse returns the number or error of the reference. No condition.
-/
import Derived.Test.YtehpdpcpdfgnlaaLiftParses
import Derived.Test.YtehpdpcpdfgnlaaRows
import Derived.ProofKit
namespace Go.Proofs.Ytehpdpcpdfgnlaa
open Go.RowKit Num Go.ChangeShapes Go.WideShapes Go.ChangeAt
open Go.ChangeMaps (open_string shut_string)

theorem naturalParses_holds : Rows.NaturalParsesSaid :=
  OpenClaim.holds_of_wide 4 Try.f4 rfl rfl rfl rfl rfl rfl rfl ⟨rfl, rfl, rfl, rfl, rfl⟩ rfl rfl rfl rfl rfl (by kernel_rfl) Try.func4 (by kernel_rfl)
    (of_decide_eq_true (by kernel_rfl)) (by unfold Func.isWrapper; first | (rw [if_pos (by decide +kernel)]; kernel_rfl) | (rw [if_neg (by decide +kernel)]; exact ⟨rfl, rfl⟩))
    (fun os started H enc _ => naturalParses_lifted os started H enc)
end Go.Proofs.Ytehpdpcpdfgnlaa
