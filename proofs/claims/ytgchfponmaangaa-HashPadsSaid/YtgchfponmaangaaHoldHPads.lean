/-
  HashPads returns true for all keys, strings and numbers: zero bytes at the end of a short key do not change a code. No condition.
-/
import Derived.Test.YtgchfponmaangaaLiftHPads
import Derived.Test.YtgchfponmaangaaRows
import Derived.ProofKit
namespace Go.Proofs.Ytgchfponmaangaa
open Go.RowKit Num Go.ChangeShapes Go.WideShapes Go.ChangeAt
open Go.ChangeMaps (open_string shut_string)

theorem hashPads_holds : Rows.HashPadsSaid :=
  OpenClaim.holds_of_wide 7 Try.f7 rfl rfl rfl rfl rfl rfl rfl ⟨rfl, rfl, rfl, rfl, rfl⟩ rfl rfl rfl rfl rfl (by kernel_rfl) Try.func7 (by kernel_rfl)
    (of_decide_eq_true (by kernel_rfl)) (by unfold Func.isWrapper; first | (rw [if_pos (by decide +kernel)]; kernel_rfl) | (rw [if_neg (by decide +kernel)]; exact ⟨rfl, rfl⟩))
    (fun os started H enc _ => hashPads_lifted os started H enc)
end Go.Proofs.Ytgchfponmaangaa
