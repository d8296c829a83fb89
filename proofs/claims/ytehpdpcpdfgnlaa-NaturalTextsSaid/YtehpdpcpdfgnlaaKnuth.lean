/-
  Plain mathematics of the division of digits: the guess of one digit of the quotient.
-/
import Derived.Test.YtehpdpcpdfgnlaaMem
namespace Go.Proofs.Ytehpdpcpdfgnlaa
open Num

/-- The two highest digits, and what lies below them. -/
theorem dv_high1 (Y : List Nat) (n : Nat) (h : Y.length = n + 1) (hs : Small Y) : ∃ l, l < B32 ^ n ∧ dv B32 Y = Y.getD n 0 * B32 ^ n + l := by
  refine ⟨dv B32 (Y.take n), ?_, ?_⟩
  · have := (hs.take n).dv_lt
    rwa [List.length_take, Nat.min_eq_left (by omega)] at this
  · have := dv_take_next B32 Y n
    rw [dv_take_all _ _ _ (by omega)] at this
    rw [this, Nat.mul_comm (Y.getD n 0)]; omega
theorem dv_high2 (Y : List Nat) (n : Nat) (h : Y.length = n + 2) (hs : Small Y) : ∃ l, l < B32 ^ n ∧ dv B32 Y = (Y.getD (n + 1) 0 * B32 + Y.getD n 0) * B32 ^ n + l := by
  refine ⟨dv B32 (Y.take n), ?_, ?_⟩
  · have := (hs.take n).dv_lt
    rwa [List.length_take, Nat.min_eq_left (by omega)] at this
  · have h1 := dv_take_next B32 Y n
    have h2 := dv_take_next B32 Y (n + 1)
    rw [dv_take_all _ _ _ (by omega)] at h2
    rw [h2, h1, Nat.pow_succ]; grind
theorem dv_high3 (Y : List Nat) (n : Nat) (h : Y.length = n + 3) (hs : Small Y) : ∃ l, l < B32 ^ n ∧ dv B32 Y = ((Y.getD (n + 2) 0 * B32 + Y.getD (n + 1) 0) * B32 + Y.getD n 0) * B32 ^ n + l := by
  refine ⟨dv B32 (Y.take n), ?_, ?_⟩
  · have := (hs.take n).dv_lt
    rwa [List.length_take, Nat.min_eq_left (by omega)] at this
  · have h1 := dv_take_next B32 Y n
    have h2 := dv_take_next B32 Y (n + 1)
    have h3 := dv_take_next B32 Y (n + 2)
    rw [dv_take_all _ _ _ (by omega)] at h3
    rw [h3, h2, h1, Nat.pow_succ, Nat.pow_succ]; grind

theorem mul_lt_of_parts {q a b p l m : Nat} (h : q * (a * p + l) ≤ b * p + m) (hm : m < p) : q * a ≤ b := by
  have h1 : q * a * p ≤ q * (a * p + l) := by rw [Nat.mul_add, Nat.mul_assoc]; omega
  have h2 : q * a * p < (b + 1) * p := by rw [Nat.add_mul]; omega
  have := Nat.lt_of_mul_lt_mul_right h2
  omega

/-- The guess is not below the quotient. -/
theorem guess_start {R Y : List Nat} {n : Nat} (hR : R.length = n + 3) (hY : Y.length = n + 2) (hRs : Small R) (hYs : Small Y) (hv : 0 < Y.getD (n + 1) 0) :
    dv B32 R / dv B32 Y ≤ (R.getD (n + 2) 0 * B32 + R.getD (n + 1) 0) / Y.getD (n + 1) 0 := by
  obtain ⟨l, _, hl2⟩ := dv_high1 Y (n + 1) hY hYs
  obtain ⟨m, hm1, hm2⟩ := dv_high2 R (n + 1) (by omega) hRs
  rw [Nat.le_div_iff_mul_le hv]
  refine mul_lt_of_parts (p := B32 ^ (n + 1)) (l := l) (m := m) ?_ hm1
  rw [← hl2, ← hm2]
  exact Nat.div_mul_le_self _ _

theorem guess_next {R Y : List Nat} {n g left : Nat} (hR : R.length = n + 3) (hY : Y.length = n + 2) (hRs : Small R) (hYs : Small Y)
    (hlt : dv B32 R < B32 * dv B32 Y) (hq : dv B32 R / dv B32 Y ≤ g) (hg : g * Y.getD (n + 1) 0 + left = R.getD (n + 2) 0 * B32 + R.getD (n + 1) 0)
    (hc : B32 ≤ g ∨ left * B32 + R.getD n 0 < g * Y.getD n 0) : dv B32 R / dv B32 Y ≤ g - 1 ∧ 0 < g := by
  have h1 : dv B32 R / dv B32 Y < g := by
    rcases hc with hc | hc
    · have : dv B32 R / dv B32 Y < B32 := by
        rw [Nat.div_lt_iff_lt_mul]
        · exact hlt
        · rcases Nat.eq_zero_or_pos (dv B32 Y) with h | h
          · rw [h] at hlt; omega
          · exact h
      omega
    · rcases Nat.lt_or_eq_of_le hq with h | h
      · exact h
      · exfalso
        obtain ⟨l, _, hl2⟩ := dv_high2 Y n hY hYs
        obtain ⟨m, hm1, hm2⟩ := dv_high3 R n hR hRs
        have h2 : g * (Y.getD (n + 1) 0 * B32 + Y.getD n 0) ≤ (R.getD (n + 2) 0 * B32 + R.getD (n + 1) 0) * B32 + R.getD n 0 := by
          refine mul_lt_of_parts (p := B32 ^ n) (l := l) (m := m) ?_ hm1
          rw [← hl2, ← hm2, ← h]
          exact Nat.div_mul_le_self _ _
        rw [← hg, Nat.mul_add, Nat.add_mul, Nat.mul_assoc] at h2
        omega
  generalize dv B32 R / dv B32 Y = q at *
  exact ⟨by omega, by omega⟩

theorem guess_top {R Y : List Nat} {n : Nat} (hR : R.length = n + 3) (hY : Y.length = n + 2) (hRs : Small R) (hYs : Small Y) (hlt : dv B32 R < B32 * dv B32 Y) : R.getD (n + 2) 0 ≤ Y.getD (n + 1) 0 := by
  obtain ⟨l, hl1, hl2⟩ := dv_high1 Y (n + 1) hY hYs
  obtain ⟨m, _, hm2⟩ := dv_high1 R (n + 2) hR hRs
  rw [hl2, hm2] at hlt
  have h1 : R.getD (n + 2) 0 * B32 ^ (n + 2) < (Y.getD (n + 1) 0 + 1) * B32 ^ (n + 2) := by
    have e : B32 ^ (n + 2) = B32 * B32 ^ (n + 1) := by rw [Nat.pow_succ (n := B32), Nat.mul_comm]
    have h2 : B32 * (Y.getD (n + 1) 0 * B32 ^ (n + 1) + l) < B32 * ((Y.getD (n + 1) 0 + 1) * B32 ^ (n + 1)) := Nat.mul_lt_mul_of_pos_left (by rw [Nat.add_mul]; omega) (by decide)
    have h3 : B32 * ((Y.getD (n + 1) 0 + 1) * B32 ^ (n + 1)) = (Y.getD (n + 1) 0 + 1) * B32 ^ (n + 2) := by rw [e]; grind
    omega
  have := Nat.lt_of_mul_lt_mul_right h1
  omega

/-- The guess is at most one too large. -/
theorem guess_end {R Y : List Nat} {n g left : Nat} (hR : R.length = n + 3) (hY : Y.length = n + 2) (hRs : Small R) (hYs : Small Y) (hv : 0 < Y.getD (n + 1) 0)
    (hg : g * Y.getD (n + 1) 0 + left = R.getD (n + 2) 0 * B32 + R.getD (n + 1) 0) (hb : g < B32) (hc : g * Y.getD n 0 ≤ left * B32 + R.getD n 0) : g ≤ dv B32 R / dv B32 Y + 1 := by
  obtain ⟨l, hl1, hl2⟩ := dv_high2 Y n hY hYs
  obtain ⟨m, hm1, hm2⟩ := dv_high3 R n hR hRs
  have hYpos : 0 < dv B32 Y := by
    rw [hl2]
    have : 0 < (Y.getD (n + 1) 0 * B32 + Y.getD n 0) * B32 ^ n := Nat.mul_pos (by have : 0 < Y.getD (n + 1) 0 * B32 := Nat.mul_pos hv (by decide); omega) (Nat.pow_pos (by decide))
    omega
  rcases Nat.eq_zero_or_pos g with rfl | hg0
  · exact Nat.zero_le _
  obtain ⟨k, rfl⟩ : ∃ k, g = k + 1 := ⟨g - 1, by omega⟩
  have : k ≤ dv B32 R / dv B32 Y := by
    rw [Nat.le_div_iff_mul_le hYpos]
    have hD : B32 ≤ Y.getD (n + 1) 0 * B32 + Y.getD n 0 := by
      have : 1 * B32 ≤ Y.getD (n + 1) 0 * B32 := Nat.mul_le_mul_right _ hv
      omega
    have h2 : (k + 1) * (Y.getD (n + 1) 0 * B32 + Y.getD n 0) ≤ (R.getD (n + 2) 0 * B32 + R.getD (n + 1) 0) * B32 + R.getD n 0 := by
      rw [← hg, Nat.mul_add, Nat.add_mul _ _ B32, Nat.mul_assoc]
      omega
    rw [hl2, hm2]
    generalize Y.getD (n + 1) 0 * B32 + Y.getD n 0 = D at *
    generalize (R.getD (n + 2) 0 * B32 + R.getD (n + 1) 0) * B32 + R.getD n 0 = T at *
    generalize B32 ^ n = p at *
    have h3 : k * (D + 1) ≤ T := by
      rw [Nat.add_mul] at h2
      rw [Nat.mul_add]
      omega
    have h4 : k * (D * p + l) ≤ k * ((D + 1) * p) := Nat.mul_le_mul_left _ (by rw [Nat.add_mul]; omega)
    have h5 : k * ((D + 1) * p) ≤ T * p := by rw [← Nat.mul_assoc]; exact Nat.mul_le_mul_right _ h3
    omega
  exact Nat.succ_le_succ this

theorem getD_mid (P R S : List Nat) (k : Nat) (h : k < R.length) : (P ++ R ++ S).getD (P.length + k) 0 = R.getD k 0 := by
  simp only [List.getD_eq_getElem?_getD]
  rw [List.append_assoc, List.getElem?_append_right (by omega), List.getElem?_append_left (by omega)]
  congr 2
  omega
theorem set_mid (P R S : List Nat) (k d : Nat) (h : k < R.length) : (P ++ R ++ S).set (P.length + k) d = P ++ R.set k d ++ S := by
  rw [List.append_assoc, List.set_append_right _ _ (by omega), List.set_append_left _ _ (by omega), List.append_assoc]
  congr 3
  omega

end Go.Proofs.Ytehpdpcpdfgnlaa
