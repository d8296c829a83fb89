/-
  dominolaw01.NaturalField returns true for every input: for all canonical numbers of at most 40 bytes addition commutes, multiplication distributes over it and subtraction inverts it (other strings only check the chapter's examples). No condition.
-/
import Derived.Test.YtkhmihemgbaadaaLiftField
import Derived.Test.YtkhmihemgbaadaaRows
import Derived.ProofKit
namespace Go.Proofs.Ytkhmihemgbaadaa
open Go.RowKit Num Go.ChangeShapes Go.WideShapes Go.ChangeAt
open Go.ChangeMaps (open_string shut_string)

theorem naturalField_holds : Rows.NaturalFieldSaid :=
  OpenClaim.holds_of_wide 10 Try.f10 rfl rfl rfl rfl rfl rfl rfl ⟨rfl, rfl, rfl, rfl, rfl⟩ rfl rfl rfl rfl rfl (by kernel_rfl) Try.func10 (by kernel_rfl)
    (of_decide_eq_true (by kernel_rfl)) (by unfold Func.isWrapper; first | (rw [if_pos (by decide +kernel)]; kernel_rfl) | (rw [if_neg (by decide +kernel)]; exact ⟨rfl, rfl⟩))
    (fun os started H enc _ => naturalField_lifted os started H enc)
end Go.Proofs.Ytkhmihemgbaadaa
