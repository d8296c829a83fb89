/-
  Contracts of the reference's functions that read numbers: Valid, trim, Of, U64, Small, Order, Cmp, at. Contracts of the reference's trim, Of, Order, Cmp, bits and one. Contracts of the reference's Order, Cmp, bits, one, Plus and Minus. Contracts of the reference's one, Plus and Minus.
-/
import Derived.Test.YtmiafkbjmkaebaaNatD
import Derived.Test.YtmiafkbjmkaebaaBase
namespace Go.Proofs.Ytmiafkbjmkaebaa
open Go.RowKit Num

theorem top_big' {n : Nat} (h : n < 18446744073709551616) : n < Top := by unfold Top; exact Nat.lt_trans h (by decide)
/-- The byte with the weight 256^i of a number. -/
def byteN (a i : Nat) : Nat := a / 256 ^ i % 256
theorem byteN_far {a i : Nat} (h : (bs a).size ≤ i) : byteN a i = 0 := by
  unfold byteN
  have h1 := cb_lt_pow a
  rw [← bs_size] at h1
  have h2 : 256 ^ (bs a).size ≤ 256 ^ i := Nat.pow_le_pow_right (by decide) h
  rw [Nat.div_eq_of_lt (by omega)]
theorem byteN_get {a i p : Nat} (h : p + 1 + i = (bs a).size) (hp : p < (bs a).size) : (bs a)[p].toNat = byteN a i := by
  have := cb_get a i (by rw [← bs_size]; omega)
  unfold byteN
  rw [← this, bs_getElem a p hp]
  congr 2
  rw [← bs_size]; omega

end Go.Proofs.Ytmiafkbjmkaebaa

namespace Go.Proofs.Ytmiafkbjmkaebaa
open Go.RowKit Num

theorem getD_list (l : List UInt8) (k : Nat) : l[k]? = some 0 ↔ k < l.length ∧ l.getD k 0 = 0 := by
  rw [List.getD_eq_getElem?_getD]
  rcases Nat.lt_or_ge k l.length with h | h
  · rw [List.getElem?_eq_getElem h]; simp [h]
  · rw [List.getElem?_eq_none h]; simp; omega

/-- The bytes from place t on, when the one at t is set. -/
theorem bval_set_drop (l : List UInt8) (t : Nat) (b : UInt8) (h : t < l.length) : bval ((l.set t b).drop t) = b.toNat * 256 ^ (l.length - t - 1) + bval (l.drop (t + 1)) := by
  have h1 : (l.set t b).drop t = b :: l.drop (t + 1) := by
    rw [List.drop_eq_getElem_cons (by simpa using h), List.drop_set_of_lt (by omega)]
    simp
  rw [h1, bval_cons, List.length_drop]
  congr 3

end Go.Proofs.Ytmiafkbjmkaebaa

namespace Go.Proofs.Ytmiafkbjmkaebaa
open Go.RowKit Num

theorem hi_bounds (n k : Nat) : hi n k * 256 ^ ((bs n).size - k) ≤ n ∧ n < (hi n k + 1) * 256 ^ ((bs n).size - k) := by
  have h1 := bval_append ((cb n).take k) ((cb n).drop k)
  rw [List.take_append_drop, bval_cb, List.length_drop, ← bs_size] at h1
  have h2 := bval_lt ((cb n).drop k)
  rw [List.length_drop, ← bs_size] at h2
  unfold hi
  rw [Nat.add_mul, Nat.one_mul]
  omega
theorem order_lt {a b k : Nat} (hs : (bs a).size = (bs b).size) (hlt : hi a (k + 1) < hi b (k + 1)) : a < b := by
  have h1 := hi_bounds a (k + 1)
  have h2 := hi_bounds b (k + 1)
  rw [← hs] at h2
  have h3 : (hi a (k + 1) + 1) * 256 ^ ((bs a).size - (k + 1)) ≤ hi b (k + 1) * 256 ^ ((bs a).size - (k + 1)) := Nat.mul_le_mul_right _ hlt
  omega

end Go.Proofs.Ytmiafkbjmkaebaa

namespace Go.Proofs.Ytmiafkbjmkaebaa
open Go.RowKit Num

/-- Whether the binary digit with the weight 2^i is 1. -/
def bitB (a i : Nat) : Bool := a / 2 ^ i % 2 == 1
theorem bit_of_byte (a i : Nat) : byteN a (i / 8) / 2 ^ (i % 8) % 2 = a / 2 ^ i % 2 := by
  unfold byteN
  have e : (256 : Nat) ^ (i / 8) = 2 ^ (8 * (i / 8)) := by rw [Nat.pow_mul]
  have e2 : 2 ^ i = 2 ^ (8 * (i / 8)) * 2 ^ (i % 8) := by rw [← Nat.pow_add]; congr 1; omega
  rw [e, e2, ← Nat.div_div_eq_div_mul]
  generalize a / 2 ^ (8 * (i / 8)) = V
  have : i % 8 = 0 ∨ i % 8 = 1 ∨ i % 8 = 2 ∨ i % 8 = 3 ∨ i % 8 = 4 ∨ i % 8 = 5 ∨ i % 8 = 6 ∨ i % 8 = 7 := by omega
  rcases this with h | h | h | h | h | h | h | h <;> rw [h] <;> simp <;> omega

theorem byte_next (a i : Nat) : a % 256 ^ (i + 1) = a % 256 ^ i + 256 ^ i * byteN a i := mod_next a i
theorem plus_step {a b i c t L : Nat} {l : List UInt8} {d : UInt8} (hL : l.length = L) (ht : t + 1 + i = L) (h : bval (l.drop (t + 1)) + 256 ^ i * c = a % 256 ^ i + b % 256 ^ i)
    (hd : d.toNat = (byteN a i + byteN b i + c) % 256) : bval ((l.set t d).drop t) + 256 ^ (i + 1) * ((byteN a i + byteN b i + c) / 256) = a % 256 ^ (i + 1) + b % 256 ^ (i + 1) := by
  rw [bval_set_drop l t d (by omega), hL, show L - t - 1 = i from by omega, hd, byte_next, byte_next, Nat.pow_succ]
  generalize byteN a i = x at *
  generalize byteN b i = y at *
  generalize 256 ^ i = p at *
  have e := Nat.div_add_mod (x + y + c) 256
  have e2 : p * 256 * ((x + y + c) / 256) + (x + y + c) % 256 * p = p * x + p * y + p * c := by
    rw [Nat.mul_assoc, Nat.mul_comm _ p, ← Nat.mul_add, e, Nat.mul_add, Nat.mul_add]
  omega
theorem plus_end {a b c L : Nat} {l : List UInt8} (hL : l.length = L) (h : bval (l.drop 0) + 256 ^ L * c = a % 256 ^ L + b % 256 ^ L) (ha : (bs a).size + 1 ≤ L) (hb : (bs b).size + 1 ≤ L) : bval l = a + b := by
  rw [List.drop_zero] at h
  have h1 := bval_lt l
  rw [hL] at h1
  obtain ⟨m, rfl⟩ : ∃ m, L = m + 1 := ⟨L - 1, by omega⟩
  have ha2 : a < 256 ^ m := by
    have := cb_lt_pow a
    rw [← bs_size] at this
    exact Nat.lt_of_lt_of_le this (Nat.pow_le_pow_right (by decide) (by omega))
  have hb2 : b < 256 ^ m := by
    have := cb_lt_pow b
    rw [← bs_size] at this
    exact Nat.lt_of_lt_of_le this (Nat.pow_le_pow_right (by decide) (by omega))
  rw [Nat.pow_succ] at *
  rw [Nat.mod_eq_of_lt (by omega), Nat.mod_eq_of_lt (by omega)] at h
  rcases Nat.eq_zero_or_pos c with rfl | hc
  · omega
  · have : 256 ^ m * 256 * 1 ≤ 256 ^ m * 256 * c := Nat.mul_le_mul_left _ hc
    omega

theorem minus_step {a b i c bw t L : Nat} {l : List UInt8} {d : UInt8} (hL : l.length = L) (ht : t + 1 + i = L) (h : bval (l.drop (t + 1)) + b % 256 ^ i = a % 256 ^ i + 256 ^ i * c)
    (hd : d.toNat + byteN b i + c = byteN a i + 256 * bw) : bval ((l.set t d).drop t) + b % 256 ^ (i + 1) = a % 256 ^ (i + 1) + 256 ^ (i + 1) * bw := by
  rw [bval_set_drop l t d (by omega), hL, show L - t - 1 = i from by omega, byte_next, byte_next, Nat.pow_succ]
  generalize byteN a i = x at *
  generalize byteN b i = y at *
  generalize 256 ^ i = p at *
  generalize d.toNat = e at *
  have e2 : e * p + p * y + p * c = p * x + p * 256 * bw := by
    rw [Nat.mul_comm e, Nat.mul_assoc, ← Nat.mul_add, ← Nat.mul_add, hd, Nat.mul_add]
  omega
theorem minus_end {a b c L : Nat} {l : List UInt8} (hL : l.length = L) (h : bval (l.drop 0) + b % 256 ^ L = a % 256 ^ L + 256 ^ L * c) (ha : (bs a).size ≤ L) (hb : b ≤ a) : bval l = a - b := by
  rw [List.drop_zero] at h
  have h1 := bval_lt l
  rw [hL] at h1
  have ha2 : a < 256 ^ L := bs_le.1 ha
  rw [Nat.mod_eq_of_lt (by omega), Nat.mod_eq_of_lt (by omega)] at h
  rcases Nat.eq_zero_or_pos c with rfl | hc
  · omega
  · have : 256 ^ L * 1 ≤ 256 ^ L * c := Nat.mul_le_mul_left _ hc
    omega

end Go.Proofs.Ytmiafkbjmkaebaa
