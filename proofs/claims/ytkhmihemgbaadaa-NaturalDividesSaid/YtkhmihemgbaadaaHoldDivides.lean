/-
  dominolaw01.NaturalDivides returns true for every input: for all canonical numbers of at most 60 bytes the dividend is the quotient times the divisor plus the remainder, which is less than the divisor, division by 0 is ErrZero, and a number is the sum of the weights of its binary digits (other strings only check the chapter's examples). No condition.
-/
import Derived.Test.YtkhmihemgbaadaaLiftDivides
import Derived.Test.YtkhmihemgbaadaaRows
import Derived.ProofKit
namespace Go.Proofs.Ytkhmihemgbaadaa
open Go.RowKit Num Go.ChangeShapes Go.WideShapes Go.ChangeAt
open Go.ChangeMaps (open_string shut_string)

theorem naturalDivides_holds : Rows.NaturalDividesSaid :=
  OpenClaim.holds_of_wide 11 Try.f11 rfl rfl rfl rfl rfl rfl rfl ⟨rfl, rfl, rfl, rfl, rfl⟩ rfl rfl rfl rfl rfl (by kernel_rfl) Try.func11 (by kernel_rfl)
    (of_decide_eq_true (by kernel_rfl)) (by unfold Func.isWrapper; first | (rw [if_pos (by decide +kernel)]; kernel_rfl) | (rw [if_neg (by decide +kernel)]; exact ⟨rfl, rfl⟩))
    (fun os started H enc _ => naturalDivides_lifted os started H enc)
end Go.Proofs.Ytkhmihemgbaadaa
