/-
  dominolaw01.NaturalRoots returns true for every input: for all strings of at most 60 bytes Gcd and Sqrt return what the reference returns. No condition.
-/
import Derived.Test.YtkhmihemgbaadaaLiftRoots
import Derived.Test.YtkhmihemgbaadaaRows
import Derived.ProofKit
namespace Go.Proofs.Ytkhmihemgbaadaa
open Go.RowKit Num Go.ChangeShapes Go.WideShapes Go.ChangeAt
open Go.ChangeMaps (open_string shut_string)

theorem naturalRoots_holds : Rows.NaturalRootsSaid :=
  OpenClaim.holds_of_wide 7 Try.f7 rfl rfl rfl rfl rfl rfl rfl ⟨rfl, rfl, rfl, rfl, rfl⟩ rfl rfl rfl rfl rfl (by kernel_rfl) Try.func7 (by kernel_rfl)
    (of_decide_eq_true (by kernel_rfl)) (by unfold Func.isWrapper; first | (rw [if_pos (by decide +kernel)]; kernel_rfl) | (rw [if_neg (by decide +kernel)]; exact ⟨rfl, rfl⟩))
    (fun os started H enc _ => naturalRoots_lifted os started H enc)
end Go.Proofs.Ytkhmihemgbaadaa
