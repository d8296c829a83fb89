/-
  The contract of modular.withoutTwos.
-/
import Derived.Test.YtmiafkbjmkaebaaGreatModN
import Derived.Test.YtmiafkbjmkaebaaGreatLawA
import Derived.Test.YtmiafkbjmkaebaaGreatText
namespace Go.Proofs.YtmiafkbjmkaebaaGreat
open Go.RowKit Num

theorem bit_low {s d i : Nat} (h : i < s) : bitB (2 ^ s * d) i = false := by
  unfold bitB
  obtain ⟨k, rfl⟩ : ∃ k, s = i + 1 + k := ⟨s - i - 1, by omega⟩
  rw [show 2 ^ (i + 1 + k) * d = 2 ^ i * (2 * (2 ^ k * d)) from by rw [Nat.pow_add, Nat.pow_succ]; ac_rfl, Nat.mul_div_cancel_left _ (Nat.pow_pos (by decide)), Nat.mul_mod_right]
  rfl
theorem bit_at {s d : Nat} (h : d % 2 = 1) : bitB (2 ^ s * d) s = true := by
  unfold bitB
  rw [Nat.mul_div_cancel_left _ (Nat.pow_pos (by decide)), h]
  rfl
theorem bit_nb {a i : Nat} (h : bitB a i = true) : i < nb a := by
  unfold bitB at h
  rcases Nat.lt_or_ge i (nb a) with hh | hh
  · exact hh
  · exfalso
    have : a < 2 ^ nb a := by
      rcases Nat.eq_zero_or_pos a with h | h
      · subst h; exact Nat.pow_pos (by decide)
      · exact (nb_bounds (by omega)).2.1
    rw [Nat.div_eq_of_lt (Nat.lt_of_lt_of_le this (Nat.pow_le_pow_right (by decide) hh))] at h
    simp at h

theorem pow2_bs (s : Nat) : (⟨(((List.replicate (s / 8 + 1) 0).set 0 (UInt8.ofNat (2 ^ (s % 8)))).drop 0).toArray⟩ : ByteArray) = bs (2 ^ s) := by
  have hk : 2 ^ (s % 8) < 256 := Nat.lt_of_lt_of_le (Nat.pow_lt_pow_right (by decide) (Nat.mod_lt s (by decide))) (by decide)
  have hp : 0 < 2 ^ (s % 8) := Nat.pow_pos (by decide)
  have ht : (UInt8.ofNat (2 ^ (s % 8))).toNat = 2 ^ (s % 8) := by rw [UInt8.toNat_ofNat']; omega
  have hl : ((List.replicate (s / 8 + 1) 0).set 0 (UInt8.ofNat (2 ^ (s % 8)))).drop 0 = UInt8.ofNat (2 ^ (s % 8)) :: List.replicate (s / 8) 0 := by rw [List.replicate_succ]; rfl
  have h0 : ∀ k, bval (List.replicate k 0) = 0 := by
    intro k
    induction k with
    | zero => rfl
    | succ k ih => rw [List.replicate_succ, bval_cons, ih]; simp
  have hc : cb (2 ^ s) = UInt8.ofNat (2 ^ (s % 8)) :: List.replicate (s / 8) 0 := by
    have hcan : Num.Can (UInt8.ofNat (2 ^ (s % 8)) :: List.replicate (s / 8) 0) := by
      unfold Num.Can
      rw [List.head?_cons]
      intro h
      injection h with h
      rw [h] at ht
      have : (0 : UInt8).toNat = 0 := rfl
      omega
    rw [← cb_bval hcan, bval_cons, h0, ht, List.length_replicate, Nat.add_zero, show (256 : Nat) = 2 ^ 8 from rfl, ← Nat.pow_mul, ← Nat.pow_add]
    congr 2
    omega
  rw [hl, bs, hc]

end Go.Proofs.YtmiafkbjmkaebaaGreat
