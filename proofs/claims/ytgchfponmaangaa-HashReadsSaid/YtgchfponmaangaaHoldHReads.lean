/-
  HashReads returns true for all strings: the digits of Hex are those of the bytes; hashes and codes have 32 bytes. No condition.
-/
import Derived.Test.YtgchfponmaangaaLiftHReads
import Derived.Test.YtgchfponmaangaaRows
import Derived.ProofKit
namespace Go.Proofs.Ytgchfponmaangaa
open Go.RowKit Num Go.ChangeShapes Go.WideShapes Go.ChangeAt
open Go.ChangeMaps (open_string shut_string)

theorem hashReads_holds : Rows.HashReadsSaid :=
  OpenClaim.holds_of_wide 8 Try.f8 rfl rfl rfl rfl rfl rfl rfl ⟨rfl, rfl, rfl, rfl, rfl⟩ rfl rfl rfl rfl rfl (by kernel_rfl) Try.func8 (by kernel_rfl)
    (of_decide_eq_true (by kernel_rfl)) (by unfold Func.isWrapper; first | (rw [if_pos (by decide +kernel)]; kernel_rfl) | (rw [if_neg (by decide +kernel)]; exact ⟨rfl, rfl⟩))
    (fun os started H enc _ => hashReads_lifted os started H enc)
end Go.Proofs.Ytgchfponmaangaa
