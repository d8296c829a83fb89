/-
  The contract of modular.Inverse for canonical arguments.
-/
import Derived.Test.YtnnohjabneepiaaModN
import Derived.Test.YtnnohjabneepiaaIntQ
namespace Go.Proofs.Ytnnohjabneepiaa
open Go.RowKit Num

theorem ext_one {a M X : Nat} (hg : Nat.gcd a M = 1) (hX : X < M) (h : a * X % M = 1 % M) : ∃ Y : Int, IsExt a M (X : Int) Y := by
  have e1 := Nat.div_add_mod (a * X) M
  have e2 := Nat.div_add_mod 1 M
  rw [h] at e1
  refine ⟨((1 / M : Nat) : Int) - ((a * X / M : Nat) : Int), ?_, by omega, ?_⟩
  · rw [hg, Int.mul_sub]
    have f1 : (M : Int) * ((a * X / M : Nat) : Int) = ((M * (a * X / M) : Nat) : Int) := by rw [Int.natCast_mul]
    have f2 : (M : Int) * ((1 / M : Nat) : Int) = ((M * (1 / M) : Nat) : Int) := by rw [Int.natCast_mul]
    have f3 : (a : Int) * (X : Int) = ((a * X : Nat) : Int) := by rw [Int.natCast_mul]
    rw [f1, f2, f3]
    omega
  · rw [hg, Nat.div_one]; omega

set_option maxHeartbeats 1000000 in
set_option maxRecDepth 100000 in
theorem mcheck1 (a M : Nat) (ha : a < Top) (h0 : M ≠ 0) (hT : M < Top) (W : World) (g : Nat) (h1 : W.cell? ⟨g, 0, none⟩ = some (.string (bs a))) (h3 : g < W.heap.size) :
    Calls Try.prog 53 #[.string (bs M), .slice (some ⟨g, 0, none⟩) 1 1] W (Same W (.int .i64 0)) :=
  mcheck_ok M 1 (fun _ => a) g W h0 hT (by omega) (fun i _ => ha) (fun i hi => by
    obtain rfl : i = 0 := by omega
    exact h1) h3

end Go.Proofs.Ytnnohjabneepiaa
