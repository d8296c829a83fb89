/-
  The contracts of modular.remainder, modular.subtract, modular.Sub and modular.Add for canonical arguments.
-/
import Derived.Test.YtmiafkbjmkaebaaGreatModL
import Derived.Test.YtmiafkbjmkaebaaGreatNatD
namespace Go.Proofs.YtmiafkbjmkaebaaGreat
open Go.RowKit Num

theorem cmp_ge0 {a b : Nat} (h : b ≤ a) : 0 ≤ cmpN a b := by unfold cmpN; rw [if_neg (by omega)]; split <;> omega
theorem cmp_lt1 {a b : Nat} (h : a < b) : cmpN a b = -1 := by unfold cmpN; rw [if_pos h]

/-- The check of two numbers and a modulus, as the walk meets it. -/
theorem mcheck2 (a b M : Nat) (ha : a < Top) (hb : b < Top) (h0 : M ≠ 0) (hT : M < Top) (W : World) (g : Nat) (h1 : W.cell? ⟨g, 0, none⟩ = some (.string (bs a))) (h2 : W.cell? ⟨g, 1, none⟩ = some (.string (bs b))) (h3 : g < W.heap.size) :
    Calls Tryz.prog 56 #[.string (bs M), .slice (some ⟨g, 0, none⟩) 2 2] W (Same W (.int .i64 0)) :=
  mcheck_ok M 2 (fun i => if i = 0 then a else b) g W h0 hT (by omega) (fun i _ => by split <;> assumption) (fun i hi => by
    rcases (show i = 0 ∨ i = 1 by omega) with rfl | rfl
    · exact h1
    · exact h2) h3

theorem add_rem (a b M : Nat) (h0 : M ≠ 0) : (a % M + (M - (M - b % M))) % M = (a + b) % M := by
  have := Nat.mod_lt b (show 0 < M by omega)
  rw [show M - (M - b % M) = b % M from by omega, ← Nat.add_mod]

end Go.Proofs.YtmiafkbjmkaebaaGreat
