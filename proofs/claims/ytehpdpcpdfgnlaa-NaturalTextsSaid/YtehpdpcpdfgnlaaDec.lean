/-
  Plain mathematics of decimal digits.
-/
import Derived.Test.YtehpdpcpdfgnlaaNum
namespace Go.Proofs.Ytehpdpcpdfgnlaa.Num

/-- The first k decimal digits of a number, the least significant one first, as bytes. -/
def ldk : Nat → Nat → List UInt8
  | 0, _ => []
  | k + 1, n => UInt8.ofNat (48 + n % 10) :: ldk k (n / 10)
theorem ldk_length (k n : Nat) : (ldk k n).length = k := by
  induction k generalizing n with
  | zero => rfl
  | succ k ih => simp [ldk, ih]
theorem ldk_snoc (k n : Nat) : ldk (k + 1) n = ldk k n ++ [UInt8.ofNat (48 + n / 10 ^ k % 10)] := by
  induction k generalizing n with
  | zero => simp [ldk]
  | succ k ih =>
    rw [ldk, ih, ldk, List.cons_append, Nat.div_div_eq_div_mul, Nat.pow_succ, Nat.mul_comm 10]
theorem ldk_get (k n j : Nat) (h : j < k) : (ldk k n).getD j 0 = UInt8.ofNat (48 + n / 10 ^ j % 10) := by
  induction k generalizing n j with
  | zero => omega
  | succ k ih =>
    cases j with
    | zero => simp [ldk]
    | succ j =>
      rw [ldk, List.getD_cons_succ, ih _ _ (by omega), Nat.div_div_eq_div_mul, Nat.pow_succ, Nat.mul_comm 10]
theorem ldk_take (k m n : Nat) (h : m ≤ k) : (ldk k n).take m = ldk m n := by
  induction k generalizing n m with
  | zero => have : m = 0 := by omega
            subst this; rfl
  | succ k ih =>
    cases m with
    | zero => rfl
    | succ m => rw [ldk, ldk, List.take_succ_cons, ih _ _ (by omega)]
/-- How many decimal digits a number has. -/
def dn (n : Nat) : Nat := if _h : n = 0 then 0 else dn (n / 10) + 1
termination_by n
decreasing_by omega
theorem dn_zero : dn 0 = 0 := by rw [dn]; simp
theorem dn_pos {n : Nat} (h : n ≠ 0) : dn n = dn (n / 10) + 1 := by rw [dn]; simp [h]
theorem dn_lt (n : Nat) : n < 10 ^ dn n := by
  induction n using Nat.strongRecOn with
  | ind n ih =>
    by_cases h : n = 0
    · subst h; rw [dn_zero]; decide
    · have := ih (n / 10) (by omega)
      rw [dn_pos h, Nat.pow_succ]
      omega
theorem dn_ge {n : Nat} (h : n ≠ 0) : 10 ^ (dn n - 1) ≤ n := by
  induction n using Nat.strongRecOn with
  | ind n ih =>
    rw [dn_pos h, Nat.add_sub_cancel]
    by_cases h2 : n / 10 = 0
    · rw [h2, dn_zero]; simp; omega
    · have := ih (n / 10) (by omega) h2
      obtain ⟨m, hm⟩ : ∃ m, dn (n / 10) = m + 1 := ⟨dn (n / 10 / 10), dn_pos h2⟩
      rw [hm, Nat.add_sub_cancel] at this
      rw [hm, Nat.pow_succ]
      omega
theorem dn_le {n k : Nat} (h : n < 10 ^ k) : dn n ≤ k := by
  by_cases h0 : n = 0
  · rw [h0, dn_zero]; omega
  · have := dn_ge h0
    apply Decidable.byContradiction
    intro hc
    have : 10 ^ k ≤ 10 ^ (dn n - 1) := Nat.pow_le_pow_right (by decide) (by omega)
    omega
/-- The digit with the weight 10^j beyond the number is 0; the highest one is not. -/
theorem dig_zero {n j : Nat} (h : dn n ≤ j) : n / 10 ^ j % 10 = 0 := by
  have h1 := dn_lt n
  have h2 : 10 ^ dn n ≤ 10 ^ j := Nat.pow_le_pow_right (by decide) h
  rw [Nat.div_eq_of_lt (by omega)]
theorem dig_top {n : Nat} (h : n ≠ 0) : n / 10 ^ (dn n - 1) % 10 ≠ 0 := by
  have h1 := dn_ge h
  have h2 := dn_lt n
  obtain ⟨m, hm⟩ : ∃ m, dn n = m + 1 := ⟨dn (n / 10), dn_pos h⟩
  rw [hm] at h2 ⊢
  rw [hm, Nat.add_sub_cancel] at h1
  rw [Nat.add_sub_cancel]
  have hp : 0 < 10 ^ m := Nat.pow_pos (by decide)
  have h3 : 1 ≤ n / 10 ^ m := (Nat.le_div_iff_mul_le hp).2 (by omega)
  have h4 : n / 10 ^ m < 10 := (Nat.div_lt_iff_lt_mul hp).2 (by rw [Nat.pow_succ] at h2; omega)
  omega
/-- The text of a number. -/
def dtext (n : Nat) : List UInt8 := if n = 0 then [48] else (ldk (dn n) n).reverse
theorem dtext_zero : dtext 0 = [48] := by simp [dtext]
theorem dtext_pos {n : Nat} (h : n ≠ 0) : dtext n = (ldk (dn n) n).reverse := by simp [dtext, h]

end Go.Proofs.Ytehpdpcpdfgnlaa.Num
