/-
  HashKeys returns true for all keys and strings: the code is that of the definition, calculated with Sum; a long key has the code of its hash. No condition.
-/
import Derived.Test.YtgchfponmaangaaLiftHKeys
import Derived.Test.YtgchfponmaangaaRows
import Derived.ProofKit
namespace Go.Proofs.Ytgchfponmaangaa
open Go.RowKit Num Go.ChangeShapes Go.WideShapes Go.ChangeAt
open Go.ChangeMaps (open_string shut_string)

theorem hashKeys_holds : Rows.HashKeysSaid :=
  OpenClaim.holds_of_wide 6 Try.f6 rfl rfl rfl rfl rfl rfl rfl ⟨rfl, rfl, rfl, rfl, rfl⟩ rfl rfl rfl rfl rfl (by kernel_rfl) Try.func6 (by kernel_rfl)
    (of_decide_eq_true (by kernel_rfl)) (by unfold Func.isWrapper; first | (rw [if_pos (by decide +kernel)]; kernel_rfl) | (rw [if_neg (by decide +kernel)]; exact ⟨rfl, rfl⟩))
    (fun os started H enc _ => hashKeys_lifted os started H enc)
end Go.Proofs.Ytgchfponmaangaa
