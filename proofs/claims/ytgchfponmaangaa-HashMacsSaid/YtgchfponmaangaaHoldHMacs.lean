/-
  HashMacs returns true for all keys and strings: Mac returns the code of the reference. No condition.
-/
import Derived.Test.YtgchfponmaangaaLiftHMacs
import Derived.Test.YtgchfponmaangaaRows
import Derived.ProofKit
namespace Go.Proofs.Ytgchfponmaangaa
open Go.RowKit Num Go.ChangeShapes Go.WideShapes Go.ChangeAt
open Go.ChangeMaps (open_string shut_string)

theorem hashMacs_holds : Rows.HashMacsSaid :=
  OpenClaim.holds_of_wide 5 Try.f5 rfl rfl rfl rfl rfl rfl rfl ⟨rfl, rfl, rfl, rfl, rfl⟩ rfl rfl rfl rfl rfl (by kernel_rfl) Try.func5 (by kernel_rfl)
    (of_decide_eq_true (by kernel_rfl)) (by unfold Func.isWrapper; first | (rw [if_pos (by decide +kernel)]; kernel_rfl) | (rw [if_neg (by decide +kernel)]; exact ⟨rfl, rfl⟩))
    (fun os started H enc _ => hashMacs_lifted os started H enc)
end Go.Proofs.Ytgchfponmaangaa
