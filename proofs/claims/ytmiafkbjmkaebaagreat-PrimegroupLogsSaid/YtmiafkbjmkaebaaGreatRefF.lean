/-
  The contracts of the reference's Times and Over at all numbers.
-/
import Derived.Test.YtmiafkbjmkaebaaGreatRefE
namespace Go.Proofs.YtmiafkbjmkaebaaGreat
open Go.RowKit Num

theorem rtimes_any (a b : Nat) (w : World) (h1 : (bs a).size ≤ 2000) (h2 : (bs b).size ≤ 2000) :
    Calls Tryz.prog 119 #[.string (bs a), .string (bs b)] w (Made w (.string (bs (a * b)))) := by
  rcases Nat.lt_or_ge 8 ((bs a).size + (bs b).size) with h | h
  · exact times_long a b w h h1 h2
  · exact times_small a b w h

theorem bs_one : bs 1 = ⟨#[1]⟩ := by unfold bs; rw [cb_pos (by decide), show 1 / 256 = 0 from rfl, cb_zero]; rfl

set_option maxHeartbeats 1000000 in
set_option maxRecDepth 100000 in
theorem over_small (a b : Nat) (w : World) (h1 : (bs a).size ≤ 8) (h2 : (bs b).size ≤ 8) (h0 : b ≠ 0) :
    Calls Tryz.prog 54 #[.string (bs a), .string (bs b)] w (Made w (.tuple #[.string (bs (a / b)), .string (bs (a % b))])) := by
  have ha : a < 18446744073709551616 := bs_le.1 h1
  have hb : b < 18446744073709551616 := bs_le.1 h2
  obtain ⟨q, hq⟩ : ∃ q, q = a / b := ⟨_, rfl⟩
  obtain ⟨r, hr⟩ : ∃ r, r = a % b := ⟨_, rfl⟩
  have hb0 : 0 < b := Nat.pos_of_ne_zero h0
  have hdiv : (a : Int) / (b : Int) = (q : Int) := by rw [hq]; rfl
  have hqa : q ≤ a := by rw [hq]; exact Nat.div_le_self _ _
  have hra : r ≤ a := by rw [hr]; exact Nat.mod_le _ _
  have hq64 : q < 18446744073709551616 := by omega
  have hr64 : r < 18446744073709551616 := by omega
  have R1 : ∀ W, Calls Tryz.prog 78 #[.int .u64 (q : Int)] W (Made W (.string (bs q))) := fun W => rof_any q W hq64
  have R2 : ∀ W, Calls Tryz.prog 78 #[.int .u64 (r : Int)] W (Made W (.string (bs r))) := fun W => rof_any r W hr64
  have hmt : (a : Int).tmod (b : Int) = (r : Int) := by rw [hr]; exact (Int.ofNat_tmod a b).symm
  have w2e : IntKind.u64.wrap (r : Int) = (r : Int) := by rw [IntKind.wrap_u64]; omega
  rw [← hq, ← hr]
  have HA := Lib.hid ha
  have HB := Lib.hid hb
  have w1e : IntKind.u64.wrap (q : Int) = (q : Int) := by rw [IntKind.wrap_u64]; omega
  have HR1 := Lib.hid R1
  have HR2 := Lib.hid R2
  clear ha hb hq hr hq64 hr64 R1 R2 h0
  go_enter Tryz.func54, Tryz.ntmps54
  go_wp2_with fail
  refine (ru64_any a _ HA.out).mono ?_
  rintro e w' ⟨rfl, rfl⟩
  go_wp2_with fail
  refine (ru64_any b _ HB.out).mono ?_
  rintro e w' ⟨rfl, rfl⟩
  have hB : Below w.heap.size w w.drew := (Below.refl _ _).drew
  go_wp2
  go_region_with (first | (go_at_call 78; (with_reducible refine (HR1.out _).mono ?_); rintro e w1 ⟨rfl, hb1⟩; replace hB := hB.trans (hb1.mono hB.size); clear hb1) | (go_at_call 78; (with_reducible refine (HR2.out _).mono ?_); rintro e w2 ⟨rfl, hb2⟩; replace hB := hB.trans (hb2.mono hB.size); clear hb2))
  all_goals
    go_wp2
    go_ret2
    exact ⟨rfl, hB⟩

theorem bval_set_add (l : List UInt8) (p t : Nat) (d : UInt8) (k : Nat) (hp : p + 1 + t = l.length) (hd : d.toNat = (l.getD p 0).toNat + k) : bval (l.set p d) = bval l + k * 256 ^ t := by
  have h1 := bval_append (l.take p) (l.drop p)
  rw [List.take_append_drop] at h1
  have h2 := bval_append ((l.set p d).take p) ((l.set p d).drop p)
  rw [List.take_append_drop, List.take_set_of_le (Nat.le_refl _), List.length_drop, List.length_set, bval_set_drop l p d (by omega)] at h2
  have h3 : bval (l.drop p) = (l.getD p 0).toNat * 256 ^ (l.length - p - 1) + bval (l.drop (p + 1)) := by
    rw [List.drop_eq_getElem_cons (by omega), bval_cons, List.length_drop]
    congr 2
    · simp [List.getD_eq_getElem?_getD, List.getElem?_eq_getElem (show p < l.length by omega)]
  rw [List.length_drop] at h1
  rw [h2, h1, h3, hd, show l.length - p - 1 = t from by omega, Nat.add_mul]
  omega
theorem bval_get (l : List UInt8) (p t : Nat) (hp : p + 1 + t = l.length) : (l.getD p 0).toNat = bval l / 256 ^ t % 256 := by
  have h1 := bval_append (l.take p) (l.drop p)
  rw [List.take_append_drop] at h1
  have h3 : bval (l.drop p) = (l.getD p 0).toNat * 256 ^ (l.length - p - 1) + bval (l.drop (p + 1)) := by
    rw [List.drop_eq_getElem_cons (by omega), bval_cons, List.length_drop]
    congr 2
    · simp [List.getD_eq_getElem?_getD, List.getElem?_eq_getElem (show p < l.length by omega)]
  have h4 := bval_lt (l.drop (p + 1))
  rw [List.length_drop, show l.length - (p + 1) = t from by omega] at h4
  rw [List.length_drop, show l.length - p = t + 1 from by omega] at h1
  rw [show l.length - p - 1 = t from by omega] at h3
  have hb := byte_lt (l.getD p 0)
  rw [h1, h3, Nat.pow_succ]
  generalize (l.getD p 0).toNat = c at *
  have e : bval (l.take p) * (256 ^ t * 256) + (c * 256 ^ t + bval (l.drop (p + 1))) = bval (l.drop (p + 1)) + 256 ^ t * (bval (l.take p) * 256 + c) := by grind
  rw [e, Nat.add_mul_div_left _ _ (Nat.pow_pos (by decide)), Nat.div_eq_of_lt h4]
  omega
/-- The bit i of a number whose last i + 1 bits are 0 can be set in its byte. -/
theorem byte_room {l : List UInt8} {p i Q : Nat} (hp : p + 1 + i / 8 = l.length) (h : bval l = Q * 2 ^ (i + 1)) : (l.getD p 0).toNat + 2 ^ (i % 8) < 256 := by
  rw [bval_get l p (i / 8) hp, h]
  have e : 2 ^ (i + 1) = 256 ^ (i / 8) * 2 ^ (i % 8 + 1) := by
    rw [show (256 : Nat) = 2 ^ 8 from by decide, ← Nat.pow_mul, ← Nat.pow_add]; congr 1; omega
  rw [e, show Q * (256 ^ (i / 8) * 2 ^ (i % 8 + 1)) = 256 ^ (i / 8) * (Q * 2 ^ (i % 8 + 1)) from by grind, Nat.mul_div_cancel_left _ (Nat.pow_pos (by decide))]
  have : i % 8 = 0 ∨ i % 8 = 1 ∨ i % 8 = 2 ∨ i % 8 = 3 ∨ i % 8 = 4 ∨ i % 8 = 5 ∨ i % 8 = 6 ∨ i % 8 = 7 := by omega
  rcases this with h | h | h | h | h | h | h | h <;> rw [h] <;> simp <;> omega
theorem bit_weight (i : Nat) : 2 ^ (i % 8) * 256 ^ (i / 8) = 2 ^ i := by
  rw [show (256 : Nat) = 2 ^ 8 from by decide, ← Nat.pow_mul, ← Nat.pow_add]; congr 1; omega
theorem half_next (a i : Nat) : a / 2 ^ i = a / 2 ^ (i + 1) * 2 + (if bitB a i then 1 else 0) := by
  unfold bitB
  rw [Nat.pow_succ, ← Nat.div_div_eq_div_mul]
  by_cases h : a / 2 ^ i % 2 = 1
  · simp [h]; omega
  · simp [h]; omega

theorem over_step {a b i r r' : Nat} (hb : 0 < b) (hr : r = a / 2 ^ (i + 1) % b) (hr' : r' = r + r + (if bitB a i then 1 else 0)) :
    (b ≤ r' → a / 2 ^ i % b = r' - b ∧ a / 2 ^ i / b = a / 2 ^ (i + 1) / b * 2 + 1) ∧ (r' < b → a / 2 ^ i % b = r' ∧ a / 2 ^ i / b = a / 2 ^ (i + 1) / b * 2) := by
  have h1 := half_next a i
  have h2 := Nat.div_add_mod (a / 2 ^ (i + 1)) b
  have h3 := Nat.mod_lt (a / 2 ^ (i + 1)) hb
  have he : (if bitB a i = true then 1 else 0) ≤ 1 := by split <;> omega
  rw [← hr] at h2 h3
  generalize a / 2 ^ (i + 1) = A at *
  generalize A / b = q at *
  generalize (if bitB a i = true then 1 else 0) = e at *
  have h4 : a / 2 ^ i = b * (q * 2) + r' := by
    rw [h1, hr', ← h2, Nat.mul_comm q, ← Nat.mul_assoc]
    have : (b * q + r) * 2 = b * 2 * q + 2 * r := by grind
    omega
  rw [h4]
  constructor
  · intro h
    obtain ⟨c, rfl⟩ := Nat.le.dest h
    have hc : c < b := by omega
    have e1 : b * (q * 2) + (b + c) = c + b * (q * 2 + 1) := by grind
    rw [e1, Nat.add_mul_mod_self_left, Nat.add_mul_div_left _ _ hb, Nat.mod_eq_of_lt hc, Nat.div_eq_of_lt hc]
    omega
  · intro h
    rw [Nat.add_comm, Nat.add_mul_mod_self_left, Nat.add_mul_div_left _ _ hb, Nat.mod_eq_of_lt h, Nat.div_eq_of_lt h]
    omega
end Go.Proofs.YtmiafkbjmkaebaaGreat
