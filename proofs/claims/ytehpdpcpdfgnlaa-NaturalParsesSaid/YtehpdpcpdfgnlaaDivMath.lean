/-
  Plain mathematics of the division of digits: the loop over the digits of the quotient.
-/
import Derived.Test.YtehpdpcpdfgnlaaMem
import Derived.Test.YtehpdpcpdfgnlaaShift
namespace Go.Proofs.Ytehpdpcpdfgnlaa
open Num

/-- The state of the long division: a digits of the quotient are still to come. -/
def LongDiv (W zs : List Nat) (a U V : Nat) : Prop := dv B32 W + B32 ^ a * dv B32 (zs.drop a) * V = U ∧ dv B32 (W.drop a) < V

theorem long_start {W zs : List Nat} {X n L M s y : Nat} (hW : W.length = M + 1) (hWs : Small W) (hz : zs.length = L) (hL : L + (n + 1) = M) (hX : X < B32 ^ M) (hWv : dv B32 W = X * 2 ^ s) (hy : B32 ^ (n + 1) ≤ y) : LongDiv W zs L (X * 2 ^ s) (y * 2 ^ s) := by
  refine ⟨by rw [List.drop_eq_nil_of_le (by omega), hWv]; simp [dv], ?_⟩
  rw [← dv_div_pow hWs L (by omega), hWv, Nat.div_lt_iff_lt_mul (Nat.pow_pos (by decide))]
  have h1 : X * 2 ^ s < B32 ^ M * 2 ^ s := Nat.mul_lt_mul_of_pos_right hX (Nat.pow_pos (by decide))
  have h2 : B32 ^ M * 2 ^ s ≤ y * 2 ^ s * B32 ^ L := by
    rw [← hL, Nat.pow_add, Nat.mul_comm (B32 ^ L), Nat.mul_assoc, Nat.mul_comm (B32 ^ L), ← Nat.mul_assoc]
    exact Nat.mul_le_mul_right _ (Nat.mul_le_mul_right _ hy)
  omega

/-- The part of the digits that one step divides. -/
theorem long_part {W zs : List Nat} {t n U V : Nat} (h : LongDiv W zs (t + 1) U V) (hWs : Small W) (hV : V < B32 ^ (n + 2)) (hl : t + (n + 3) ≤ W.length) :
    ∃ R S, W = W.take t ++ R ++ S ∧ R.length = n + 3 ∧ Small R ∧ dv B32 S = 0 ∧ dv B32 R < B32 * V ∧ dv B32 R = dv B32 (W.drop t) := by
  refine ⟨(W.drop t).take (n + 3), W.drop (t + (n + 3)), ?_, ?_, (hWs.drop t).take _, ?_⟩
  · rw [List.append_assoc, ← List.drop_drop, List.take_append_drop, List.take_append_drop]
  · rw [List.length_take, List.length_drop]; omega
  · have h1 : dv B32 (W.drop t) < B32 * V := by
      rw [dv_drop']
      have := hWs.at t
      have h2 := h.2
      have h3 : B32 * (dv B32 (W.drop (t + 1)) + 1) ≤ B32 * V := Nat.mul_le_mul_left _ h2
      rw [Nat.mul_add] at h3
      omega
    have h2 := dv_split B32 (W.drop t) (n + 3) (by rw [List.length_drop]; omega)
    rw [List.drop_drop] at h2
    have h4 : B32 * V < B32 ^ (n + 3) := by
      rw [Nat.pow_succ, Nat.mul_comm]; exact Nat.mul_lt_mul_of_pos_right hV (by decide)
    have h5 : dv B32 (W.drop (t + (n + 3))) = 0 := by
      rcases Nat.eq_zero_or_pos (dv B32 (W.drop (t + (n + 3)))) with g | g
      · exact g
      · have : B32 ^ (n + 3) * 1 ≤ B32 ^ (n + 3) * dv B32 (W.drop (t + (n + 3))) := Nat.mul_le_mul_left _ g
        omega
    rw [h5] at h2
    exact ⟨h5, by omega, by omega⟩

theorem long_step {W zs P R R' S : List Nat} {t n U V q : Nat} (h : LongDiv W zs (t + 1) U V) (hW : W = P ++ R ++ S) (hP : P.length = t) (hR : R.length = n + 3) (hR' : R'.length = n + 3) (hS : dv B32 S = 0)
    (hz : t < zs.length) (hq : q = dv B32 R / V) (hr : dv B32 R' = dv B32 R % V) (hV : 0 < V) : LongDiv (P ++ R' ++ S) (zs.set t q) t U V := by
  obtain ⟨h1, _⟩ := h
  have hd : (P ++ R' ++ S).drop t = R' ++ S := by rw [List.append_assoc, ← hP, List.drop_left]
  constructor
  · have e1 : dv B32 ((zs.set t q).drop t) = q + B32 * dv B32 (zs.drop (t + 1)) := by
      rw [dv_drop', List.drop_set_of_lt (by omega)]
      simp [List.getD_eq_getElem?_getD, hz]
    rw [e1]
    rw [hW] at h1
    simp only [dv_append, hS, hR, hR', hP, Nat.mul_zero, Nat.add_zero, List.length_append] at h1 ⊢
    have hdm := Nat.div_add_mod (dv B32 R) V
    rw [← hq, ← hr] at hdm
    rw [← h1, ← hdm, Nat.pow_succ]
    grind
  · rw [hd, dv_append, hS, Nat.mul_zero, Nat.add_zero, hr]
    exact Nat.mod_lt _ hV

theorem long_end {W zs : List Nat} {X y s n : Nat} (h : LongDiv W zs 0 (X * 2 ^ s) (y * 2 ^ s)) (hV : y * 2 ^ s < B32 ^ (n + 2)) (hl : n + 2 ≤ W.length) :
    dv B32 zs = X / y ∧ dv B32 (W.take (n + 2)) / 2 ^ s = X % y := by
  obtain ⟨h1, h2⟩ := h
  rw [List.drop_zero, Nat.pow_zero, Nat.one_mul] at h1
  rw [List.drop_zero] at h2
  have hp : 0 < 2 ^ s := Nat.pow_pos (by decide)
  have hq : X * 2 ^ s / (y * 2 ^ s) = dv B32 zs := by
    rw [← h1, Nat.mul_comm (dv B32 zs), Nat.add_mul_div_left _ _ (by omega), Nat.div_eq_of_lt h2, Nat.zero_add]
  have hr : X * 2 ^ s % (y * 2 ^ s) = dv B32 W := by
    rw [← h1, Nat.mul_comm (dv B32 zs), Nat.add_mul_mod_self_left, Nat.mod_eq_of_lt h2]
  have ht : dv B32 (W.take (n + 2)) = dv B32 W := by
    have h3 := dv_split B32 W (n + 2) hl
    rcases Nat.eq_zero_or_pos (dv B32 (W.drop (n + 2))) with g | g
    · rw [g] at h3; omega
    · have : B32 ^ (n + 2) * 1 ≤ B32 ^ (n + 2) * dv B32 (W.drop (n + 2)) := Nat.mul_le_mul_left _ g
      omega
  rw [ht, ← hr, ← hq]
  constructor
  · rw [Nat.mul_div_mul_right _ _ hp]
  · rw [Nat.mul_mod_mul_right, Nat.mul_div_cancel _ hp]

/-- Trimmed digits: the highest one is not 0. -/
def Trim (X : List Nat) : Prop := X = [] ∨ X.getD (X.length - 1) 0 ≠ 0
theorem trim_ge {X : List Nat} (h : Trim X) (hl : 0 < X.length) : B32 ^ (X.length - 1) ≤ dv B32 X := by
  rcases h with rfl | h
  · simp at hl
  · have := dv_ge B32 X (X.length - 1)
    have h2 : B32 ^ (X.length - 1) * 1 ≤ B32 ^ (X.length - 1) * X.getD (X.length - 1) 0 := Nat.mul_le_mul_left _ (by omega)
    omega
theorem trim_lt {X Y : List Nat} (hX : Small X) (hY : Trim Y) (h : X.length < Y.length) : dv B32 X < dv B32 Y := by
  have h1 := hX.dv_lt
  have h2 := trim_ge hY (by omega)
  have h3 : B32 ^ X.length ≤ B32 ^ (Y.length - 1) := Nat.pow_le_pow_right (by decide) (by omega)
  omega

end Go.Proofs.Ytehpdpcpdfgnlaa
