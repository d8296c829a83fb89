/-
  dominolaw01.NaturalWrites returns true for every input: for all numbers of 64 bits Of returns a canonical string whose number is the argument, and Cmp is the order of the numbers. No condition.
-/
import Derived.Test.YtkhmihemgbaadaaLiftWrites
import Derived.Test.YtkhmihemgbaadaaRows
import Derived.ProofKit
namespace Go.Proofs.Ytkhmihemgbaadaa
open Go.RowKit Num Go.ChangeShapes Go.WideShapes Go.ChangeAt
theorem naturalWrites_holds : Rows.NaturalWritesSaid :=
  OpenClaim.holds_of_wide 4 Try.f4 rfl rfl rfl rfl rfl rfl rfl ⟨rfl, rfl, rfl, rfl, rfl⟩ rfl rfl rfl rfl rfl (by kernel_rfl) Try.func4 (by kernel_rfl)
    (of_decide_eq_true (by kernel_rfl)) (by unfold Func.isWrapper; first | (rw [if_pos (by decide +kernel)]; kernel_rfl) | (rw [if_neg (by decide +kernel)]; exact ⟨rfl, rfl⟩))
    (fun os started H enc _ => naturalWrites_lifted os started H enc)
#print axioms naturalWrites_holds
end Go.Proofs.Ytkhmihemgbaadaa
