/-
  The contract of integer.Extended.
-/
import Derived.Test.YtnnohjabneepiaaIntP
import Derived.Test.YtnnohjabneepiaaBlk
namespace Go.Proofs.Ytnnohjabneepiaa
open Go.RowKit Num

theorem lt_top60 {n : Nat} (h : n < 256 ^ 60) : n < Top := Nat.lt_of_lt_of_le h (Nat.pow_le_pow_right (by decide) (by decide))
theorem small_top {n m : Nat} (h : n < 256 ^ 60) (hm : m ≤ n + 1) : m < Top := by
  have h1 : (256 : Nat) ^ 60 < Top := Nat.pow_lt_pow_right (by decide) (by decide)
  omega
def memVal (wr : World) (p : Addr) : Nat := match wr.cell? p with
  | some v => strVal v
  | none => 0

end Go.Proofs.Ytnnohjabneepiaa
