/-
  The contract of the reference's bezout. The contract of the reference's Extended.
-/
import Derived.Test.YtmiafkbjmkaebaaGreatIntQ
import Derived.Deep.Cut
import Derived.Deep.CutRange
import Derived.Test.YtmiafkbjmkaebaaGreatIntN
namespace Go.Proofs.YtmiafkbjmkaebaaGreat
open Go.RowKit Num

theorem zero_iv : zneg 0 = false ∧ zabs 0 = 0 := by decide
/-- A result that is still zero. -/
def Rz (wx : World) (g : Nat) : Prop := wx.cell? ⟨g, 0, none⟩ = some (.bool false) ∧ wx.cell? ⟨g, 1, none⟩ = some (.string ⟨#[]⟩) ∧ wx.frozen? ⟨g, 0, none⟩ = false ∧ wx.frozen? ⟨g, 1, none⟩ = false
theorem gcd_step (a b : Nat) : Nat.gcd a b = Nat.gcd b (a % b) := by rw [Nat.gcd_comm a b, Nat.gcd_rec, Nat.gcd_comm]
end Go.Proofs.YtmiafkbjmkaebaaGreat

namespace Go.Proofs.YtmiafkbjmkaebaaGreat
open Go.RowKit Num

end Go.Proofs.YtmiafkbjmkaebaaGreat
