/-
  HashHexes returns true for all strings: Hex returns the hexadecimal digits of the reference. No condition.
-/
import Derived.Test.YtgchfponmaangaaLiftHHexes
import Derived.Test.YtgchfponmaangaaRows
import Derived.ProofKit
namespace Go.Proofs.Ytgchfponmaangaa
open Go.RowKit Num Go.ChangeShapes Go.WideShapes Go.ChangeAt
open Go.ChangeMaps (open_string shut_string)

theorem hashHexes_holds : Rows.HashHexesSaid :=
  OpenClaim.holds_of_wide 4 Try.f4 rfl rfl rfl rfl rfl rfl rfl ⟨rfl, rfl, rfl, rfl, rfl⟩ rfl rfl rfl rfl rfl (by kernel_rfl) Try.func4 (by kernel_rfl)
    (of_decide_eq_true (by kernel_rfl)) (by unfold Func.isWrapper; first | (rw [if_pos (by decide +kernel)]; kernel_rfl) | (rw [if_neg (by decide +kernel)]; exact ⟨rfl, rfl⟩))
    (fun os started H enc _ => hashHexes_lifted os started H enc)
end Go.Proofs.Ytgchfponmaangaa
