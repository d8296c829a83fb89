/-
  The contract of the reference's Over at long numbers.
-/
import Derived.Test.YtmiafkbjmkaebaaRefF
namespace Go.Proofs.Ytmiafkbjmkaebaa
open Go.RowKit Num

theorem half_eq (x y : Nat) : x * (y * 2) = x * 2 * y := by
  rw [Nat.mul_comm y 2, ← Nat.mul_assoc]
theorem half_eq1 (x y : Nat) : x * (y * 2) + y = (x * 2 + 1) * y := by
  rw [half_eq, Nat.add_mul, Nat.one_mul]
theorem size_bound {b x k : Nat} (hb : (bs b).size ≤ k) (hx : x ≤ 2 * b + 1) : (bs x).size ≤ k + 1 := by
  rw [bs_le] at hb ⊢
  rw [Nat.pow_succ]
  have := Nat.pow_pos (a := 256) (n := k) (by decide)
  omega

end Go.Proofs.Ytmiafkbjmkaebaa
