/-
  IntegerExtends returns true for all pairs of strings: Extended agrees with the reference. No condition.
-/
import Derived.Test.YtejadipdpohkoaaLiftIExt
import Derived.Test.YtejadipdpohkoaaRows
import Derived.ProofKit
namespace Go.Proofs.Ytejadipdpohkoaa
open Go.RowKit Num Go.ChangeShapes Go.WideShapes Go.ChangeAt
open Go.ChangeMaps (open_string shut_string)

theorem integerExtends_holds : Rows.IntegerExtendsSaid :=
  OpenClaim.holds_of_wide 8 Try.f8 rfl rfl rfl rfl rfl rfl rfl ⟨rfl, rfl, rfl, rfl, rfl⟩ rfl rfl rfl rfl rfl (by kernel_rfl) Try.func8 (by kernel_rfl)
    (of_decide_eq_true (by kernel_rfl)) (by unfold Func.isWrapper; first | (rw [if_pos (by decide +kernel)]; kernel_rfl) | (rw [if_neg (by decide +kernel)]; exact ⟨rfl, rfl⟩))
    (fun os started H enc _ => integerExtends_lifted os started H enc)
end Go.Proofs.Ytejadipdpohkoaa
