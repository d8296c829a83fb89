/-
  dominolaw01.NaturalAdds returns true for every input: for all strings Add, Sub and Cmp return what the reference returns, and the chapter's examples hold. No condition.
-/
import Derived.Test.YtkhmihemgbaadaaLiftAdds
import Derived.Test.YtkhmihemgbaadaaRows
import Derived.ProofKit
namespace Go.Proofs.Ytkhmihemgbaadaa
open Go.RowKit Num Go.ChangeShapes Go.WideShapes Go.ChangeAt
open Go.ChangeMaps (open_string shut_string)

theorem naturalAdds_holds : Rows.NaturalAddsSaid :=
  OpenClaim.holds_of_wide 5 Try.f5 rfl rfl rfl rfl rfl rfl rfl ⟨rfl, rfl, rfl, rfl, rfl⟩ rfl rfl rfl rfl rfl (by kernel_rfl) Try.func5 (by kernel_rfl)
    (of_decide_eq_true (by kernel_rfl)) (by unfold Func.isWrapper; first | (rw [if_pos (by decide +kernel)]; kernel_rfl) | (rw [if_neg (by decide +kernel)]; exact ⟨rfl, rfl⟩))
    (fun os started H enc _ => naturalAdds_lifted os started H enc)
end Go.Proofs.Ytkhmihemgbaadaa
