/-
  Plain mathematics of integers: Euclidean division by magnitudes, and Bezout's coefficients. No program is named here. Integers as values: sign and magnitude. The contracts of Valid and signed of integer, and of Valid and Make of the reference. The contracts of From, Neg and Of of integer and of the reference. The contracts of Mul of integer and of the reference. The contracts of Add of integer and of the reference.
-/
import Derived.Test.YtmiafkbjmkaebaaGreatConM
import Derived.RegionTactic
import Derived.BigRegion
namespace Go.Proofs.YtmiafkbjmkaebaaGreat.Num

theorem ediv_of {a b q r : Int} (h0 : b ≠ 0) (h : a = q * b + r) (h1 : 0 ≤ r) (h2 : r < b.natAbs) : a / b = q ∧ a % b = r := by
  rcases Int.lt_or_gt_of_ne h0 with g | g
  · exact (Int.ediv_emod_unique' g).2 ⟨by rw [h, Int.mul_comm b q]; omega, h1, by omega⟩
  · exact (Int.ediv_emod_unique g).2 ⟨by rw [h, Int.mul_comm b q]; omega, h1, by omega⟩
/-- The sign of an integer, as a factor. -/
def sg (neg : Bool) : Int := if neg then -1 else 1
theorem sg_mul (p q : Bool) : sg p * sg q = sg (p != q) := by cases p <;> cases q <;> rfl
theorem sg_sq (p : Bool) : sg p * sg p = 1 := by cases p <;> rfl
theorem sg_abs (p : Bool) (n : Nat) : (sg p * (n : Int)).natAbs = n := by cases p <;> simp [sg]
theorem sg_of (z : Int) : sg (decide (z < 0)) * (z.natAbs : Int) = z := by
  by_cases h : z < 0
  · simp [sg, h]; omega
  · simp [sg, h]; omega
theorem nat_div_eq (n m : Nat) : (n : Int) = (m : Int) * (n / m : Nat) + (n % m : Nat) := by
  have := Nat.div_add_mod n m
  have h2 : ((m * (n / m) + n % m : Nat) : Int) = (n : Int) := by rw [this]
  rw [← h2]; simp
/-- Division downwards, for signs and magnitudes, where nothing has to be corrected. -/
theorem euclid_plain (p q : Bool) (n m : Nat) (hm : m ≠ 0) (h : p = false ∨ n % m = 0) :
    (sg p * (n : Int)) / (sg q * (m : Int)) = sg (p != q) * ((n / m : Nat) : Int) ∧ (sg p * (n : Int)) % (sg q * (m : Int)) = ((n % m : Nat) : Int) := by
  have hlt : n % m < m := Nat.mod_lt _ (Nat.pos_of_ne_zero hm)
  have hb : sg q * (m : Int) ≠ 0 := by cases q <;> simp [sg] <;> omega
  refine ediv_of hb ?_ (by omega) (by rw [sg_abs]; omega)
  have e := nat_div_eq n m
  generalize ((n / m : Nat) : Int) = d at e ⊢
  have e2 : sg (p != q) * d * (sg q * (m : Int)) = sg p * ((m : Int) * d) := by
    rw [← sg_mul, show sg p * sg q * d * (sg q * (m : Int)) = sg p * (sg q * sg q) * ((m : Int) * d) from by ac_rfl, sg_sq, Int.mul_one]
  rw [e2]
  rcases h with h | h
  · subst h
    simp only [sg, Bool.false_eq_true, if_false, Int.one_mul]
    omega
  · rw [h] at e ⊢
    rw [e]; simp
/-- Division downwards, for a negative number with a remainder. -/
theorem euclid_next (q : Bool) (n m : Nat) (hm : m ≠ 0) (h : n % m ≠ 0) :
    (sg true * (n : Int)) / (sg q * (m : Int)) = sg (true != q) * ((n / m + 1 : Nat) : Int) ∧ (sg true * (n : Int)) % (sg q * (m : Int)) = ((m - n % m : Nat) : Int) := by
  have hlt : n % m < m := Nat.mod_lt _ (Nat.pos_of_ne_zero hm)
  have hb : sg q * (m : Int) ≠ 0 := by cases q <;> simp [sg] <;> omega
  refine ediv_of hb ?_ (by omega) (by rw [sg_abs]; omega)
  have e := nat_div_eq n m
  have e2 : sg (true != q) * ((n / m + 1 : Nat) : Int) * (sg q * (m : Int)) = sg true * ((m : Int) * ((n / m + 1 : Nat) : Int)) := by
    rw [← sg_mul, show sg true * sg q * ((n / m + 1 : Nat) : Int) * (sg q * (m : Int)) = sg true * (sg q * sg q) * ((m : Int) * ((n / m + 1 : Nat) : Int)) from by ac_rfl, sg_sq, Int.mul_one]
  rw [e2]
  have e3 : (m : Int) * ((n / m + 1 : Nat) : Int) = (m : Int) * ((n / m : Nat) : Int) + (m : Int) := by
    rw [Int.natCast_add, Int.mul_add]; simp
  rw [e3]
  simp only [sg, if_true]
  omega

/-- Bezout's coefficients in the Euclidean algorithm: r0 and r1 are the numbers that are left of a and b. -/
structure Bz (a b r0 r1 : Nat) (x0 x1 y0 y1 : Int) : Prop where
  e0 : (a : Int) * x0 + (b : Int) * y0 = r0
  e1 : (a : Int) * x1 + (b : Int) * y1 = r1
  sx : (0 ≤ x0 ∧ x1 ≤ 0) ∨ (x0 ≤ 0 ∧ 0 ≤ x1)
  sy : (0 ≤ y0 ∧ y1 ≤ 0) ∨ (y0 ≤ 0 ∧ 0 ≤ y1)
  nx : x1.natAbs * r0 + x0.natAbs * r1 = b
  ny : y1.natAbs * r0 + y0.natAbs * r1 = a
  bx : x0.natAbs ≤ b + 1
  bY : y0.natAbs ≤ a + 1
  cx : x1.natAbs ≤ b + 1
  cy : y1.natAbs ≤ a + 1
  g : Nat.gcd r0 r1 = Nat.gcd a b
theorem abs_mul (q : Nat) (x : Int) : ((q : Int) * x).natAbs = q * x.natAbs := by rw [Int.natAbs_mul]; simp
theorem Bz.start (a b : Nat) : Bz a b a b 1 0 0 1 := ⟨by simp, by simp, .inl ⟨by omega, by omega⟩, .inr ⟨by omega, by omega⟩, by simp, by simp, by simp, by simp, by simp, by simp, rfl⟩
theorem next_abs {x0 x1 : Int} (q : Nat) (h : (0 ≤ x0 ∧ x1 ≤ 0) ∨ (x0 ≤ 0 ∧ 0 ≤ x1)) : (x0 - (q : Int) * x1).natAbs = x0.natAbs + q * x1.natAbs ∧ ((0 ≤ x1 ∧ x0 - (q : Int) * x1 ≤ 0) ∨ (x1 ≤ 0 ∧ 0 ≤ x0 - (q : Int) * x1)) := by
  have hm : ((q : Int) * x1).natAbs = q * x1.natAbs := by rw [Int.natAbs_mul]; simp
  rcases h with ⟨h0, h1⟩ | ⟨h0, h1⟩
  · have h2 : (q : Int) * x1 ≤ 0 := Int.mul_nonpos_of_nonneg_of_nonpos (by omega) h1
    exact ⟨by omega, .inr ⟨h1, by omega⟩⟩
  · have h2 : 0 ≤ (q : Int) * x1 := Int.mul_nonneg (by omega) h1
    exact ⟨by omega, .inl ⟨h1, by omega⟩⟩
theorem le_of_mul_pos {p r b : Nat} (h : p * r ≤ b) (hr : r ≠ 0) : p ≤ b := by
  have : p * 1 ≤ p * r := Nat.mul_le_mul_left _ (by omega)
  omega
theorem step_sum {p0 p1 r0 r1 b : Nat} (h : p1 * r0 + p0 * r1 = b) : (p0 + r0 / r1 * p1) * r1 + p1 * (r0 % r1) = b := by
  have e := Nat.div_add_mod r0 r1
  generalize r0 / r1 = q at *
  generalize r0 % r1 = r at *
  rw [← h, ← e, Nat.add_mul, Nat.mul_add]
  have : q * p1 * r1 = p1 * (r1 * q) := by ac_rfl
  omega
theorem lin_step {a b x0 x1 y0 y1 q r0 r1 r : Int} (e0 : a * x0 + b * y0 = r0) (e1 : a * x1 + b * y1 = r1) (hr : r0 = r1 * q + r) : a * (x0 - q * x1) + b * (y0 - q * y1) = r := by
  have : a * (x0 - q * x1) + b * (y0 - q * y1) = (a * x0 + b * y0) - q * (a * x1 + b * y1) := by
    rw [Int.mul_sub, Int.mul_sub, Int.mul_add]
    have h1 : a * (q * x1) = q * (a * x1) := by ac_rfl
    have h2 : b * (q * y1) = q * (b * y1) := by ac_rfl
    omega
  rw [this, e0, e1, hr, Int.mul_comm q r1]
  omega
theorem Bz.step {a b r0 r1 : Nat} {x0 x1 y0 y1 : Int} (h : Bz a b r0 r1 x0 x1 y0 y1) (h1 : r1 ≠ 0) :
    Bz a b r1 (r0 % r1) x1 (x0 - ((r0 / r1 : Nat) : Int) * x1) y1 (y0 - ((r0 / r1 : Nat) : Int) * y1) := by
  obtain ⟨ax, sx⟩ := next_abs (r0 / r1) h.sx
  obtain ⟨ay, sy⟩ := next_abs (r0 / r1) h.sy
  have nx := step_sum h.nx
  have ny := step_sum h.ny
  have e := nat_div_eq r0 r1
  refine ⟨h.e1, lin_step h.e0 h.e1 e, sx, sy, by rw [ax]; exact nx, by rw [ay]; exact ny, h.cx, h.cy, ?_, ?_, ?_⟩
  · rw [ax]; exact Nat.le_succ_of_le (le_of_mul_pos (by omega : (x0.natAbs + r0 / r1 * x1.natAbs) * r1 ≤ b) h1)
  · rw [ay]; exact Nat.le_succ_of_le (le_of_mul_pos (by omega : (y0.natAbs + r0 / r1 * y1.natAbs) * r1 ≤ a) h1)
  · rw [← h.g, Nat.gcd_comm r1, ← Nat.gcd_rec, Nat.gcd_comm]
/-- The products of a step are bounded. -/
theorem Bz.prod {a b r0 r1 : Nat} {x0 x1 y0 y1 : Int} (h : Bz a b r0 r1 x0 x1 y0 y1) (h1 : r1 ≠ 0) :
    (((r0 / r1 : Nat) : Int) * x1).natAbs ≤ b ∧ (((r0 / r1 : Nat) : Int) * y1).natAbs ≤ a := by
  obtain ⟨ax, _⟩ := next_abs (r0 / r1) h.sx
  obtain ⟨ay, _⟩ := next_abs (r0 / r1) h.sy
  have nx := step_sum h.nx
  have ny := step_sum h.ny
  have hm1 := abs_mul (r0 / r1) x1
  have hm2 := abs_mul (r0 / r1) y1
  have k1 := le_of_mul_pos (by omega : (x0.natAbs + r0 / r1 * x1.natAbs) * r1 ≤ b) h1
  have k2 := le_of_mul_pos (by omega : (y0.natAbs + r0 / r1 * y1.natAbs) * r1 ≤ a) h1
  omega
theorem Bz.last {a b r0 : Nat} {x0 x1 y0 y1 : Int} (h : Bz a b r0 0 x0 x1 y0 y1) : r0 = Nat.gcd a b ∧ (a : Int) * x0 + (b : Int) * y0 = (Nat.gcd a b : Nat) := by
  have g := h.g
  rw [Nat.gcd_zero_right] at g
  subst g
  exact ⟨rfl, h.e0⟩

/-- The reference's coefficients. -/
def bez (a b : Nat) : Int × Int := if _h : b = 0 then (1, 0) else ((bez b (a % b)).2, (bez b (a % b)).1 - ((a / b : Nat) : Int) * (bez b (a % b)).2)
termination_by b
decreasing_by all_goals exact Nat.mod_lt _ (Nat.pos_of_ne_zero ‹_›)
theorem bez_zero (a : Nat) : bez a 0 = (1, 0) := by rw [bez]; simp
theorem bez_pos (a : Nat) {b : Nat} (h : b ≠ 0) : bez a b = ((bez b (a % b)).2, (bez b (a % b)).1 - ((a / b : Nat) : Int) * (bez b (a % b)).2) := by rw [bez]; simp [h]
theorem bez_spec (b : Nat) : ∀ a : Nat, (a : Int) * (bez a b).1 + (b : Int) * (bez a b).2 = (Nat.gcd a b : Nat) ∧ (b ≠ 0 → (bez a b).1.natAbs ≤ b ∧ (bez a b).2.natAbs ≤ max a 1 ∧ (((a / b : Nat) : Int) * (bez b (a % b)).2).natAbs ≤ a) := by
  induction b using Nat.strongRecOn with
  | ind b ih =>
    intro a
    by_cases h : b = 0
    · subst h
      rw [bez_zero]
      exact ⟨by simp, fun h => absurd rfl h⟩
    · obtain ⟨h1, h2⟩ := ih (a % b) (Nat.mod_lt _ (Nat.pos_of_ne_zero h)) b
      rw [bez_pos a h]
      have e := nat_div_eq a b
      have hg : Nat.gcd a b = Nat.gcd b (a % b) := by rw [Nat.gcd_comm b, ← Nat.gcd_rec, Nat.gcd_comm]
      rw [hg]
      have hz : a % b = 0 → bez b (a % b) = (1, 0) := fun h => by rw [h, bez_zero]
      have hdm := Nat.div_add_mod a b
      generalize bez b (a % b) = P at *
      obtain ⟨x, y⟩ := P
      simp only at *
      have hmul := abs_mul (a / b) y
      generalize a / b = q at *
      refine ⟨?_, fun _ => ?_⟩
      · rw [← h1, e, Int.add_mul, Int.mul_sub]
        have : (b : Int) * (q : Int) * y = (b : Int) * ((q : Int) * y) := by ac_rfl
        omega
      · by_cases hr : a % b = 0
        · have := hz hr
          injection this with hx hy
          subst hx hy
          simp
          omega
        · obtain ⟨k1, k2, _⟩ := h2 hr
          have k3 : q * y.natAbs ≤ q * b := Nat.mul_le_mul_left _ (by omega)
          rw [Nat.mul_comm b q] at hdm
          omega
/-- The coefficients that Extended hands back where b is not 0. -/
def IsExt (a b : Nat) (x y : Int) : Prop := (a : Int) * x + (b : Int) * y = (Nat.gcd a b : Nat) ∧ 0 ≤ x ∧ x < ((b / Nat.gcd a b : Nat) : Int)
theorem gcd_parts {a b : Nat} (hb : b ≠ 0) : Nat.gcd a b ≠ 0 ∧ a = Nat.gcd a b * (a / Nat.gcd a b) ∧ b = Nat.gcd a b * (b / Nat.gcd a b) ∧ b / Nat.gcd a b ≠ 0 := by
  have hg : Nat.gcd a b ≠ 0 := fun h => hb (Nat.eq_zero_of_gcd_eq_zero_right h)
  have h1 := Nat.mul_div_cancel' (Nat.gcd_dvd_left a b)
  have h2 := Nat.mul_div_cancel' (Nat.gcd_dvd_right a b)
  refine ⟨hg, h1.symm, h2.symm, fun h => ?_⟩
  rw [h] at h2
  simp at h2
  exact hb h2.symm
theorem lin_change {a b m k x y q r g : Int} (e : a * x + b * y = g) (hx : x = m * q + r) (hm : a * m = b * k) : a * r + b * (y + q * k) = g := by
  rw [← e, hx, Int.mul_add, Int.mul_add]
  have h1 : a * (m * q) = b * (q * k) := by rw [show a * (m * q) = (a * m) * q from by ac_rfl, hm]; ac_rfl
  omega
/-- What Extended makes of any coefficients. -/
theorem ext_of {a b : Nat} (hb : b ≠ 0) {x y : Int} (h : (a : Int) * x + (b : Int) * y = (Nat.gcd a b : Nat)) :
    IsExt a b (x % ((b / Nat.gcd a b : Nat) : Int)) (y + x / ((b / Nat.gcd a b : Nat) : Int) * ((a / Nat.gcd a b : Nat) : Int)) := by
  obtain ⟨hg, ha, hb2, hm⟩ := gcd_parts (a := a) hb
  unfold IsExt
  generalize hG : Nat.gcd a b = g at *
  generalize a / g = k at *
  generalize b / g = m at *
  have hm0 : (m : Int) ≠ 0 := by omega
  refine ⟨?_, Int.emod_nonneg _ hm0, ?_⟩
  · have e := Int.mul_ediv_add_emod x m
    refine lin_change h e.symm ?_
    rw [ha, hb2, Int.natCast_mul, Int.natCast_mul]
    ac_rfl
  · have hm1 : (0 : Int) < m := by omega
    exact Int.emod_lt_of_pos _ hm1
theorem ext_unique {a b : Nat} (hb : b ≠ 0) {x y x' y' : Int} (h : IsExt a b x y) (h' : IsExt a b x' y') : x = x' ∧ y = y' := by
  obtain ⟨e, l, u⟩ := h
  obtain ⟨e', l', u'⟩ := h'
  obtain ⟨hg, ha, hb2, hm⟩ := gcd_parts (a := a) hb
  have hc : Nat.Coprime (b / Nat.gcd a b) (a / Nat.gcd a b) := (Nat.coprime_div_gcd_div_gcd (Nat.pos_of_ne_zero hg)).symm
  generalize hG : Nat.gcd a b = g at *
  generalize a / g = k at *
  generalize b / g = m at *
  have hg0 : (g : Int) ≠ 0 := by omega
  have hd : (a : Int) * (x - x') = (b : Int) * (y' - y) := by rw [Int.mul_sub, Int.mul_sub]; omega
  have hd2 : (k : Int) * (x - x') = (m : Int) * (y' - y) := by
    refine Int.eq_of_mul_eq_mul_left hg0 ?_
    rw [← Int.mul_assoc, ← Int.mul_assoc, ← Int.natCast_mul, ← Int.natCast_mul, ← ha, ← hb2, hd]
  have hdv : m ∣ k * (x - x').natAbs := by
    have : (k * (x - x').natAbs) = m * (y' - y).natAbs := by
      have := congrArg Int.natAbs hd2
      rw [abs_mul, abs_mul] at this
      exact this
    exact ⟨_, this⟩
  have hdx : m ∣ (x - x').natAbs := hc.dvd_of_dvd_mul_left hdv
  have hx0 : (x - x').natAbs = 0 := by
    rcases Nat.eq_zero_or_pos (x - x').natAbs with h | h
    · exact h
    · have := Nat.le_of_dvd h hdx
      omega
  have hx : x = x' := by omega
  subst hx
  refine ⟨rfl, ?_⟩
  have h3 : (b : Int) * y = (b : Int) * y' := by omega
  have hbi : (b : Int) ≠ 0 := by omega
  exact Int.eq_of_mul_eq_mul_left hbi h3
end Go.Proofs.YtmiafkbjmkaebaaGreat.Num

namespace Go.Proofs.YtmiafkbjmkaebaaGreat
open Go.RowKit Num

/-- The sign and the magnitude of an integer. -/
def zneg (z : Int) : Bool := decide (z < 0)
def zabs (z : Int) : Nat := z.natAbs
theorem zneg_sg (p : Bool) (n : Nat) (h : n = 0 → p = false) : zneg (sg p * (n : Int)) = p := by
  unfold zneg sg
  cases p
  · simp
  · have : n ≠ 0 := fun e => by cases h e
    simp; omega
theorem zabs_sg (p : Bool) (n : Nat) : zabs (sg p * (n : Int)) = n := sg_abs p n
theorem zneg_nat (n : Nat) : zneg (n : Int) = false := by unfold zneg; simp
theorem zabs_nat (n : Nat) : zabs (n : Int) = n := by unfold zabs; simp
theorem zabs_zero {z : Int} : zabs z = 0 ↔ z = 0 := by unfold zabs; exact Int.natAbs_eq_zero
theorem zneg_zero {z : Int} (h : zabs z = 0) : zneg z = false := by rw [zabs_zero] at h; subst h; rfl
/-- Whether a value is an integer. -/
def vI (p : Bool) (s : ByteArray) : Bool := validB s && !(p && s.toList.isEmpty)
theorem vI_yes {z : Int} (h : zabs z < Top) : vI (zneg z) (bs (zabs z)) = true := by
  unfold vI
  rw [bs_valid h, bs_isEmpty]
  by_cases h0 : zabs z = 0
  · rw [zneg_zero h0]; rfl
  · have : (zabs z == 0) = false := by rw [beq_eq_false_iff_ne]; exact h0
    rw [this]; simp
theorem vI_of {p : Bool} {s : ByteArray} (h : vI p s = true) : ∃ z : Int, zabs z < Top ∧ p = zneg z ∧ s = bs (zabs z) := by
  unfold vI at h
  rw [Bool.and_eq_true] at h
  obtain ⟨n, hn, rfl⟩ := bs_of_valid h.1
  refine ⟨sg p * (n : Int), by rw [zabs_sg]; exact hn, ?_, by rw [zabs_sg]⟩
  rw [zneg_sg]
  intro h0
  have h2 := h.2
  rw [bs_isEmpty, h0] at h2
  cases p
  · rfl
  · simp at h2
theorem bcell {W w1 : World} (hb : Below W.heap.size W w1) : (∀ b o, b < W.heap.size → w1.cell? ⟨b, o, none⟩ = W.cell? ⟨b, o, none⟩) ∧ (∀ b o, b < W.heap.size → w1.frozen? ⟨b, o, none⟩ = W.frozen? ⟨b, o, none⟩) :=
  ⟨fun b o h => hb.cell (p := ⟨b, o, none⟩) h, fun b o h => hb.frozen (p := ⟨b, o, none⟩) h⟩

set_option maxHeartbeats 400000 in
set_option maxRecDepth 100000 in
theorem ivalid_core (p v b : Bool) (s : ByteArray) (w : World) (hs : s.size ≤ 9223372036854775807) (hv : validB s = v) (hb : s.toList.isEmpty = b) :
    Calls Tryz.prog 41 #[.agg #[.bool p, .string s]] w (Made w (.bool (v && !(p && b)))) := by
  have HV := Lib.hid (fun W => valid_any s W hs)
  rw [hv] at HV
  clear hv
  cases p <;> cases v <;> cases b
  all_goals
    go_enter Tryz.func41, Tryz.ntmps41
    go_wp2_with (go_at_call 31; refine (HV.out _).mono ?_; rintro e w' ⟨rfl, rfl⟩)
    go_ret
    exact ⟨rfl, (Below.refl _ _).alloc (Nat.le_refl _) _⟩
theorem ivalid_yes {z : Int} (h : zabs z < Top) (w : World) : Calls Tryz.prog 41 #[(.agg #[.bool (zneg z), .string (bs (zabs z))])] w (Made w (.bool true)) := by
  have h1 := vI_yes h
  have := ivalid_core (zneg z) (validB (bs (zabs z))) ((bs (zabs z)).toList.isEmpty) (bs (zabs z)) w (by have := bs_small h; omega) rfl rfl
  unfold vI at h1
  rw [h1] at this
  exact this
theorem ivalid_no {p : Bool} {s : ByteArray} (h : vI p s = false) (w : World) (hs : s.size ≤ 9223372036854775807) : Calls Tryz.prog 41 #[.agg #[.bool p, .string s]] w (Made w (.bool false)) := by
  have := ivalid_core p (validB s) (s.toList.isEmpty) s w hs rfl rfl
  unfold vI at h
  rw [h] at this
  exact this

set_option maxHeartbeats 400000 in
set_option maxRecDepth 100000 in
theorem rivalid_core (p v b : Bool) (s : ByteArray) (w : World) (hs : s.size ≤ 9223372036854775807) (hv : validB s = v) (hb : s.toList.isEmpty = b) :
    Calls Tryz.prog 43 #[.agg #[.bool p, .string s]] w (Made w (.bool (v && !(p && b)))) := by
  have HV := Lib.hid (fun W => rvalid_any s W hs)
  rw [hv] at HV
  clear hv
  cases p <;> cases v <;> cases b
  all_goals
    go_enter Tryz.func43, Tryz.ntmps43
    go_wp2_with (go_at_call 35; refine (HV.out _).mono ?_; rintro e w' ⟨rfl, rfl⟩)
    go_ret
    exact ⟨rfl, (Below.refl _ _).alloc (Nat.le_refl _) _⟩
theorem rivalid_yes {z : Int} (h : zabs z < Top) (w : World) : Calls Tryz.prog 43 #[(.agg #[.bool (zneg z), .string (bs (zabs z))])] w (Made w (.bool true)) := by
  have h1 := vI_yes h
  have := rivalid_core (zneg z) (validB (bs (zabs z))) ((bs (zabs z)).toList.isEmpty) (bs (zabs z)) w (by have := bs_small h; omega) rfl rfl
  unfold vI at h1
  rw [h1] at this
  exact this
theorem rivalid_no {p : Bool} {s : ByteArray} (h : vI p s = false) (w : World) (hs : s.size ≤ 9223372036854775807) : Calls Tryz.prog 43 #[.agg #[.bool p, .string s]] w (Made w (.bool false)) := by
  have := rivalid_core p (validB s) (s.toList.isEmpty) s w hs rfl rfl
  unfold vI at h
  rw [h] at this
  exact this

set_option maxHeartbeats 400000 in
set_option maxRecDepth 100000 in
theorem signed_core (p b : Bool) (s : ByteArray) (w : World) (hb : s.toList.isEmpty = b) :
    Calls Tryz.prog 135 #[.bool p, .string s] w (Made w (.agg #[.bool (p && !b), .string s])) := by
  cases p <;> cases b
  all_goals
    go_enter Tryz.func135, Tryz.ntmps135
    go_wp2
    exact bodyPost_ret (v := .agg #[.bool _, .string s]) (by simp [results, Tryz.results135, go_sem]) rfl ⟨rfl, (Below.refl _ _).alloc (Nat.le_refl _) _⟩
theorem zneg_and (p : Bool) (n : Nat) : zneg (sg p * (n : Int)) = (p && !(bs n).toList.isEmpty) := by
  rw [bs_isEmpty]
  by_cases h : n = 0
  · subst h; unfold zneg; cases p <;> rfl
  · rw [zneg_sg p n (fun e => absurd e h)]
    have : (n == 0) = false := by rw [beq_eq_false_iff_ne]; exact h
    rw [this]; simp
theorem signed_any (p : Bool) (n : Nat) (w : World) : Calls Tryz.prog 135 #[.bool p, .string (bs n)] w (Made w (.agg #[.bool (zneg (sg p * (n : Int))), .string (bs (zabs (sg p * (n : Int))))])) := by
  have := signed_core p _ (bs n) w rfl
  rw [zabs_sg, zneg_and]
  exact this

set_option maxHeartbeats 400000 in
set_option maxRecDepth 100000 in
theorem make_core (p b : Bool) (s : ByteArray) (w : World) (hb : s.toList.isEmpty = b) :
    Calls Tryz.prog 100 #[.bool p, .string s] w (Made w (.agg #[.bool (p && !b), .string s])) := by
  cases p <;> cases b
  all_goals
    go_enter Tryz.func100, Tryz.ntmps100
    go_wp2
    exact bodyPost_ret (v := .agg #[.bool _, .string s]) (by simp [results, Tryz.results100, go_sem]) rfl ⟨rfl, (Below.refl _ _).alloc (Nat.le_refl _) _⟩
theorem make_any (p : Bool) (n : Nat) (w : World) : Calls Tryz.prog 100 #[.bool p, .string (bs n)] w (Made w (.agg #[.bool (zneg (sg p * (n : Int))), .string (bs (zabs (sg p * (n : Int))))])) := by
  have := make_core p _ (bs n) w rfl
  rw [zabs_sg, zneg_and]
  exact this
theorem sg_false (n : Nat) : sg false * (n : Int) = n := by simp [sg]
theorem iv_zero : ((.agg #[.bool (zneg 0), .string (bs (zabs 0))]) : Value) = .agg #[.bool false, .string ⟨#[]⟩] := by
  rw [show zabs 0 = 0 from rfl, bs_zero]; rfl
end Go.Proofs.YtmiafkbjmkaebaaGreat

namespace Go.Proofs.YtmiafkbjmkaebaaGreat
open Go.RowKit Num

theorem sg_not (z : Int) : sg (!zneg z) * (zabs z : Int) = -z := by
  unfold zneg zabs sg
  by_cases h : z < 0
  · simp [h]; omega
  · simp [h]; omega

set_option maxHeartbeats 400000 in
set_option maxRecDepth 100000 in
theorem from_yes {n : Nat} (h : n < Top) (w : World) : Calls Tryz.prog 122 #[.string (bs n)] w (Made w (.agg #[.bool (zneg ((n : Int))), .string (bs (zabs ((n : Int))))])) := by
  have HV := Lib.hid (fun W => valid_yes h W)
  have HS := Lib.hid (fun W => signed_any false n W)
  rw [sg_false] at HS
  clear h
  go_enter Tryz.func122, Tryz.ntmps122
  go_wp2_with fail
  refine (HV.out _).mono ?_
  rintro e w' ⟨rfl, rfl⟩
  go_wp2_with fail
  refine (HS.out _).mono ?_
  rintro e w1 ⟨rfl, hb⟩
  obtain ⟨hc, hf⟩ := bcell hb
  have hB := (((Below.refl w.heap.size w).alloc (Nat.le_refl _) _).trans (hb.mono (by simp)))
  go_wp2
  exact bodyPost_ret (v := (.agg #[.bool (zneg ((n : Int))), .string (bs (zabs ((n : Int))))])) (by simp [results, Tryz.results122, go_sem, hc]) rfl ⟨rfl, (hB.setCell (Nat.le_refl _) _).setCell (Nat.le_refl _) _⟩

set_option maxHeartbeats 400000 in
set_option maxRecDepth 100000 in
theorem from_no {s : ByteArray} (h : validB s = false) (w : World) (hs : s.size ≤ 9223372036854775807) : Calls Tryz.prog 122 #[.string s] w (Made w (.agg #[.bool (zneg 0), .string (bs (zabs 0))])) := by
  have HV := Lib.hid (fun W => valid_no h W hs)
  rw [iv_zero]
  clear h
  go_enter Tryz.func122, Tryz.ntmps122
  go_wp2_with fail
  refine (HV.out _).mono ?_
  rintro e w' ⟨rfl, rfl⟩
  go_wp2
  exact bodyPost_ret (v := .agg #[.bool false, .string ⟨#[]⟩]) (by simp [results, Tryz.results122, go_sem]) rfl ⟨rfl, (Below.refl _ _).alloc (Nat.le_refl _) _⟩

set_option maxHeartbeats 400000 in
set_option maxRecDepth 100000 in
theorem neg_yes {z : Int} (h : zabs z < Top) (w : World) : Calls Tryz.prog 142 #[(.agg #[.bool (zneg z), .string (bs (zabs z))])] w (Made w (.agg #[.bool (zneg (-z)), .string (bs (zabs (-z)))])) := by
  have HV := Lib.hid (fun W => ivalid_yes h W)
  have HS := Lib.hid (fun W => signed_any (!zneg z) (zabs z) W)
  rw [sg_not] at HS
  clear h
  go_enter Tryz.func142, Tryz.ntmps142
  go_wp2_with fail
  refine (HV.out _).mono ?_
  rintro e w1 ⟨rfl, hb⟩
  obtain ⟨hc, hf⟩ := bcell hb
  have hB := (((Below.refl w.heap.size w).alloc (Nat.le_refl _) (.cells #[.bool (zneg z), .string (bs (zabs z))] 38)).alloc (by simp) (.cells #[.bool false, .string ⟨#[]⟩] 38)).trans (hb.mono (by simp; omega))
  go_wp2_with fail
  refine (HS.out _).mono ?_
  rintro e w2 ⟨rfl, hb2⟩
  obtain ⟨hc2, hf2⟩ := bcell hb2
  have hz : w.heap.size + 1 < w1.heap.size := by have := hb.size; simp at this; omega
  have hB2 := hB.trans (hb2.mono hB.size)
  go_wp2
  exact bodyPost_ret (v := (.agg #[.bool (zneg (-z)), .string (bs (zabs (-z)))])) (by simp [results, Tryz.results142, go_sem, hc, hc2, hz]) rfl ⟨rfl, (hB2.setCell (by simp) _).setCell (by simp) _⟩

set_option maxHeartbeats 400000 in
set_option maxRecDepth 100000 in
theorem rfrom_yes {n : Nat} (h : n < Top) (w : World) : Calls Tryz.prog 67 #[.string (bs n)] w (Made w (.agg #[.bool (zneg ((n : Int))), .string (bs (zabs ((n : Int))))])) := by
  have HV := Lib.hid (fun W => rvalid_yes h W)
  have HS := Lib.hid (fun W => make_any false n W)
  rw [sg_false] at HS
  clear h
  go_enter Tryz.func67, Tryz.ntmps67
  go_wp2_with fail
  refine (HV.out _).mono ?_
  rintro e w' ⟨rfl, rfl⟩
  go_wp2_with fail
  refine (HS.out _).mono ?_
  rintro e w1 ⟨rfl, hb⟩
  obtain ⟨hc, hf⟩ := bcell hb
  have hB := (((Below.refl w.heap.size w).alloc (Nat.le_refl _) _).trans (hb.mono (by simp)))
  go_wp2
  exact bodyPost_ret (v := (.agg #[.bool (zneg ((n : Int))), .string (bs (zabs ((n : Int))))])) (by simp [results, Tryz.results67, go_sem, hc]) rfl ⟨rfl, (hB.setCell (Nat.le_refl _) _).setCell (Nat.le_refl _) _⟩

set_option maxHeartbeats 400000 in
set_option maxRecDepth 100000 in
theorem rfrom_no {s : ByteArray} (h : validB s = false) (w : World) (hs : s.size ≤ 9223372036854775807) : Calls Tryz.prog 67 #[.string s] w (Made w (.agg #[.bool (zneg 0), .string (bs (zabs 0))])) := by
  have HV := Lib.hid (fun W => rvalid_no h W hs)
  rw [iv_zero]
  clear h
  go_enter Tryz.func67, Tryz.ntmps67
  go_wp2_with fail
  refine (HV.out _).mono ?_
  rintro e w' ⟨rfl, rfl⟩
  go_wp2
  exact bodyPost_ret (v := .agg #[.bool false, .string ⟨#[]⟩]) (by simp [results, Tryz.results67, go_sem]) rfl ⟨rfl, (Below.refl _ _).alloc (Nat.le_refl _) _⟩

theorem bs_lt63 {n : Nat} (h : n ≤ 9223372036854775808) : n < Top := top_big (by omega)

set_option maxHeartbeats 400000 in
set_option maxRecDepth 100000 in
theorem iof_pos {n : Nat} (h : n < 9223372036854775808) (w : World) : Calls Tryz.prog 120 #[.int .i64 (n : Int)] w (Made w (.agg #[.bool (zneg ((n : Int))), .string (bs (zabs ((n : Int))))])) := by
  have HO := Lib.hid (fun W => of_any n (by omega) W)
  have HF := Lib.hid (fun W => from_yes (bs_lt63 (Nat.le_of_lt h)) W)
  have hcv : IntKind.u64.wrap (n : Int) = (n : Int) := by rw [IntKind.wrap_u64]; omega
  go_enter Tryz.func120, Tryz.ntmps120
  go_wp2_with fail
  refine (HO.out _).mono ?_
  rintro e w1 ⟨rfl, hb⟩
  obtain ⟨hc, hf⟩ := bcell hb
  have hB := ((Below.refl w.heap.size w).alloc (Nat.le_refl _) (.cells #[.bool false, .string ⟨#[]⟩] 38)).trans (hb.mono (by simp))
  have hz : w.heap.size < w1.heap.size := by have := hb.size; simp at this; omega
  go_wp2_with fail
  refine (HF.out _).mono ?_
  rintro e w2 ⟨rfl, hb2⟩
  obtain ⟨hc2, hf2⟩ := bcell hb2
  have hB2 := hB.trans (hb2.mono hB.size)
  go_wp2
  exact bodyPost_ret (v := (.agg #[.bool (zneg ((n : Int))), .string (bs (zabs ((n : Int))))])) (by simp [results, Tryz.results120, go_sem, hc, hc2, hz]) rfl ⟨rfl, (hB2.setCell (Nat.le_refl _) _).setCell (Nat.le_refl _) _⟩

set_option maxHeartbeats 400000 in
set_option maxRecDepth 100000 in
theorem iof_neg {n : Nat} (h0 : 0 < n) (h : n ≤ 9223372036854775808) (w : World) : Calls Tryz.prog 120 #[.int .i64 (-(n : Int))] w (Made w (.agg #[.bool (zneg (-(n : Int))), .string (bs (zabs (-(n : Int))))])) := by
  have HO := Lib.hid (fun W => of_any n (by omega) W)
  have HF := Lib.hid (fun W => signed_any true n W)
  rw [show sg true * (n : Int) = -(n : Int) by simp [sg]] at HF
  have hcv : IntKind.u64.wrap (wrap64 (n : Int)) = (n : Int) := by rw [IntKind.wrap_u64]; unfold wrap64; omega
  go_enter Tryz.func120, Tryz.ntmps120
  go_wp2_with fail
  refine (HO.out _).mono ?_
  rintro e w1 ⟨rfl, hb⟩
  obtain ⟨hc, hf⟩ := bcell hb
  have hB := ((Below.refl w.heap.size w).alloc (Nat.le_refl _) (.cells #[.bool false, .string ⟨#[]⟩] 38)).trans (hb.mono (by simp))
  have hz : w.heap.size < w1.heap.size := by have := hb.size; simp at this; omega
  go_wp2_with fail
  refine (HF.out _).mono ?_
  rintro e w2 ⟨rfl, hb2⟩
  obtain ⟨hc2, hf2⟩ := bcell hb2
  have hB2 := hB.trans (hb2.mono hB.size)
  go_wp2
  exact bodyPost_ret (v := (.agg #[.bool (zneg (-(n : Int))), .string (bs (zabs (-(n : Int))))])) (by simp [results, Tryz.results120, go_sem, hc, hc2, hz]) rfl ⟨rfl, (hB2.setCell (Nat.le_refl _) _).setCell (Nat.le_refl _) _⟩


theorem iof_any (k : Int) (h0 : -9223372036854775808 ≤ k) (h1 : k ≤ 9223372036854775807) (w : World) : Calls Tryz.prog 120 #[.int .i64 k] w (Made w (.agg #[.bool (zneg k), .string (bs (zabs k))])) := by
  by_cases h : k < 0
  · have := iof_neg (n := k.natAbs) (by omega) (by omega) w
    rw [show -(k.natAbs : Int) = k by omega] at this
    exact this
  · have := iof_pos (n := k.natAbs) (by omega) w
    rw [show (k.natAbs : Int) = k by omega] at this
    exact this
end Go.Proofs.YtmiafkbjmkaebaaGreat

namespace Go.Proofs.YtmiafkbjmkaebaaGreat
open Go.RowKit Num

theorem sg_prod (x y : Int) : sg (zneg x != zneg y) * ((zabs x * zabs y : Nat) : Int) = x * y := by
  have h1 := sg_of x
  have h2 := sg_of y
  rw [Int.natCast_mul, ← sg_mul]
  show sg (zneg x) * sg (zneg y) * ((x.natAbs : Int) * (y.natAbs : Int)) = x * y
  rw [show sg (zneg x) * sg (zneg y) * ((x.natAbs : Int) * (y.natAbs : Int)) = (sg (zneg x) * (x.natAbs : Int)) * (sg (zneg y) * (y.natAbs : Int)) from by ac_rfl]
  show (sg (decide (x < 0)) * (x.natAbs : Int)) * (sg (decide (y < 0)) * (y.natAbs : Int)) = x * y
  rw [h1, h2]
theorem zabs_mul (x y : Int) : zabs (x * y) = zabs x * zabs y := Int.natAbs_mul x y
theorem sg_none (p : Bool) : sg p * ((0 : Nat) : Int) = 0 := by simp

set_option maxHeartbeats 400000 in
set_option maxRecDepth 100000 in
theorem imul_ok {x y : Int} (hx : zabs x < Top) (hy : zabs y < Top) (hv : zabs (x * y) < Top) (w : World) : Calls Tryz.prog 136 #[(.agg #[.bool (zneg x), .string (bs (zabs x))]), (.agg #[.bool (zneg y), .string (bs (zabs y))])] w (Made w (.tuple #[(.agg #[.bool (zneg (x * y)), .string (bs (zabs (x * y)))]), .int .i64 0])) := by
  have V1 := Lib.hid (fun W => ivalid_yes hx W)
  have V2 := Lib.hid (fun W => ivalid_yes hy W)
  have HM := Lib.hid (fun W => mul_ok hx hy (by rw [← zabs_mul]; exact hv) W)
  have HS := Lib.hid (fun W => signed_any (zneg x != zneg y) (zabs x * zabs y) W)
  rw [sg_prod] at HS
  clear hx hy hv
  go_enter Tryz.func136, Tryz.ntmps136
  go_wp2_with fail
  refine (V1.out _).mono ?_
  rintro e w1 ⟨rfl, hb⟩
  have HB := hb
  clear hb
  obtain ⟨hc, hf⟩ := bcell HB
  go_wp2_with fail
  refine (V2.out _).mono ?_
  rintro e w2 ⟨rfl, hb⟩
  replace HB := HB.trans (hb.mono HB.size)
  clear hb hc hf
  obtain ⟨hc, hf⟩ := bcell HB
  go_wp2_with fail
  refine (HM.out _).mono ?_
  rintro e w3 ⟨rfl, hb⟩
  replace HB := HB.trans (hb.mono HB.size)
  clear hb hc hf
  obtain ⟨hc, hf⟩ := bcell HB
  go_wp2_with fail
  refine (HS.out _).mono ?_
  rintro e w4 ⟨rfl, hb⟩
  replace HB := HB.trans (hb.mono HB.size)
  clear hb hc hf
  obtain ⟨hc, hf⟩ := bcell HB
  have hz : w.heap.size + 2 < w4.heap.size := by have := HB.size; simp at this; omega
  have hB := ((((Below.refl w.heap.size w).alloc (Nat.le_refl _) (.cells #[.bool (zneg x), .string (bs (zabs x))] 38)).alloc (by simp) (.cells #[.bool (zneg y), .string (bs (zabs y))] 38)).alloc (by simp; omega) (.cells #[.bool false, .string ⟨#[]⟩] 38)).trans (HB.mono (by simp; omega))
  go_wp2
  exact bodyPost_ret (v := .tuple #[(.agg #[.bool (zneg (x * y)), .string (bs (zabs (x * y)))]), .int .i64 0]) (by simp [results, Tryz.results136, go_sem, hc]) rfl ⟨rfl, (hB.setCell (by simp; omega) _).setCell (by simp; omega) _⟩

set_option maxHeartbeats 400000 in
set_option maxRecDepth 100000 in
theorem imul_long {x y : Int} (hx : zabs x < Top) (hy : zabs y < Top) (hv : Top ≤ zabs (x * y)) (w : World) : Calls Tryz.prog 136 #[(.agg #[.bool (zneg x), .string (bs (zabs x))]), (.agg #[.bool (zneg y), .string (bs (zabs y))])] w (Made w (.tuple #[(.agg #[.bool (zneg 0), .string (bs (zabs 0))]), .int .i64 5])) := by
  have V1 := Lib.hid (fun W => ivalid_yes hx W)
  have V2 := Lib.hid (fun W => ivalid_yes hy W)
  have HM := Lib.hid (fun W => mul_long hx hy (by rw [← zabs_mul]; exact hv) W)
  have HS := Lib.hid (fun W => signed_any (zneg x != zneg y) 0 W)
  rw [sg_none] at HS
  clear hx hy hv
  go_enter Tryz.func136, Tryz.ntmps136
  go_wp2_with fail
  refine (V1.out _).mono ?_
  rintro e w1 ⟨rfl, hb⟩
  have HB := hb
  clear hb
  obtain ⟨hc, hf⟩ := bcell HB
  go_wp2_with fail
  refine (V2.out _).mono ?_
  rintro e w2 ⟨rfl, hb⟩
  replace HB := HB.trans (hb.mono HB.size)
  clear hb hc hf
  obtain ⟨hc, hf⟩ := bcell HB
  go_wp2_with fail
  refine (HM.out _).mono ?_
  rintro e w3 ⟨rfl, hb⟩
  replace HB := HB.trans (hb.mono HB.size)
  clear hb hc hf
  obtain ⟨hc, hf⟩ := bcell HB
  go_wp2_with fail
  refine (HS.out _).mono ?_
  rintro e w4 ⟨rfl, hb⟩
  replace HB := HB.trans (hb.mono HB.size)
  clear hb hc hf
  obtain ⟨hc, hf⟩ := bcell HB
  have hz : w.heap.size + 2 < w4.heap.size := by have := HB.size; simp at this; omega
  have hB := ((((Below.refl w.heap.size w).alloc (Nat.le_refl _) (.cells #[.bool (zneg x), .string (bs (zabs x))] 38)).alloc (by simp) (.cells #[.bool (zneg y), .string (bs (zabs y))] 38)).alloc (by simp; omega) (.cells #[.bool false, .string ⟨#[]⟩] 38)).trans (HB.mono (by simp; omega))
  go_wp2
  exact bodyPost_ret (v := .tuple #[(.agg #[.bool (zneg 0), .string (bs (zabs 0))]), .int .i64 5]) (by simp [results, Tryz.results136, go_sem, hc]) rfl ⟨rfl, (hB.setCell (by simp; omega) _).setCell (by simp; omega) _⟩

set_option maxHeartbeats 400000 in
set_option maxRecDepth 100000 in
theorem imul_no1 {p q : Bool} {s t : ByteArray} (h : vI p s = false) (hs : s.size ≤ 9223372036854775807) (w : World) : Calls Tryz.prog 136 #[.agg #[.bool p, .string s], .agg #[.bool q, .string t]] w (Made w (.tuple #[(.agg #[.bool (zneg 0), .string (bs (zabs 0))]), .int .i64 3])) := by
  have V1 := Lib.hid (fun W => ivalid_no h W hs)
  rw [iv_zero]
  clear h
  go_enter Tryz.func136, Tryz.ntmps136
  go_wp2_with fail
  refine (V1.out _).mono ?_
  rintro e w1 ⟨rfl, hb⟩
  have HB := hb
  clear hb
  obtain ⟨hc, hf⟩ := bcell HB
  have hz : w.heap.size + 2 < w1.heap.size := by have := HB.size; simp at this; omega
  have hB := ((((Below.refl w.heap.size w).alloc (Nat.le_refl _) (.cells #[.bool p, .string s] 38)).alloc (by simp) (.cells #[.bool q, .string t] 38)).alloc (by simp; omega) (.cells #[.bool false, .string ⟨#[]⟩] 38)).trans (HB.mono (by simp; omega))
  go_wp2
  exact bodyPost_ret (v := .tuple #[.agg #[.bool false, .string ⟨#[]⟩], .int .i64 3]) (by simp [results, Tryz.results136, go_sem, hc]) rfl ⟨rfl, (hB.setCell (by simp; omega) _).setCell (by simp; omega) _⟩

set_option maxHeartbeats 400000 in
set_option maxRecDepth 100000 in
theorem imul_no2 {x : Int} {q : Bool} {t : ByteArray} (hx : zabs x < Top) (h : vI q t = false) (ht : t.size ≤ 9223372036854775807) (w : World) : Calls Tryz.prog 136 #[(.agg #[.bool (zneg x), .string (bs (zabs x))]), .agg #[.bool q, .string t]] w (Made w (.tuple #[(.agg #[.bool (zneg 0), .string (bs (zabs 0))]), .int .i64 3])) := by
  have V1 := Lib.hid (fun W => ivalid_yes hx W)
  have V2 := Lib.hid (fun W => ivalid_no h W ht)
  rw [iv_zero]
  clear h hx
  go_enter Tryz.func136, Tryz.ntmps136
  go_wp2_with fail
  refine (V1.out _).mono ?_
  rintro e w1 ⟨rfl, hb⟩
  have HB := hb
  clear hb
  obtain ⟨hc, hf⟩ := bcell HB
  go_wp2_with fail
  refine (V2.out _).mono ?_
  rintro e w2 ⟨rfl, hb⟩
  replace HB := HB.trans (hb.mono HB.size)
  clear hb hc hf
  obtain ⟨hc, hf⟩ := bcell HB
  have hz : w.heap.size + 2 < w2.heap.size := by have := HB.size; simp at this; omega
  have hB := ((((Below.refl w.heap.size w).alloc (Nat.le_refl _) (.cells #[.bool (zneg x), .string (bs (zabs x))] 38)).alloc (by simp) (.cells #[.bool q, .string t] 38)).alloc (by simp; omega) (.cells #[.bool false, .string ⟨#[]⟩] 38)).trans (HB.mono (by simp; omega))
  go_wp2
  exact bodyPost_ret (v := .tuple #[.agg #[.bool false, .string ⟨#[]⟩], .int .i64 3]) (by simp [results, Tryz.results136, go_sem, hc]) rfl ⟨rfl, (hB.setCell (by simp; omega) _).setCell (by simp; omega) _⟩

end Go.Proofs.YtmiafkbjmkaebaaGreat

namespace Go.Proofs.YtmiafkbjmkaebaaGreat
open Go.RowKit Num

theorem add_same {x y : Int} (h : zneg x = zneg y) : sg (zneg x) * ((zabs x + zabs y : Nat) : Int) = x + y ∧ zabs (x + y) = zabs x + zabs y := by
  unfold zneg at h
  unfold zneg zabs sg
  by_cases hx : x < 0
  · have hy : y < 0 := by simpa [hx] using h
    simp [hx]; omega
  · have hy : ¬ y < 0 := by simpa [hx] using h
    simp [hx]; omega
theorem add_diff {x y : Int} (h : zneg x ≠ zneg y) (hl : zabs y ≤ zabs x) : sg (zneg x) * ((zabs x - zabs y : Nat) : Int) = x + y := by
  unfold zneg at h
  unfold zabs at hl
  unfold zneg zabs sg
  by_cases hx : x < 0
  · have hy : ¬ y < 0 := by simpa [hx] using h
    simp [hx]; omega
  · have hy : y < 0 := by simpa [hx] using h
    simp [hx]; omega
theorem diff_abs {x y : Int} (h : zneg x ≠ zneg y) : zabs (x + y) ≤ max (zabs x) (zabs y) := by
  unfold zneg at h
  unfold zabs
  by_cases hx : x < 0
  · have hy : ¬ y < 0 := by simpa [hx] using h
    omega
  · have hy : y < 0 := by simpa [hx] using h
    omega

set_option maxHeartbeats 400000 in
set_option maxRecDepth 100000 in
theorem iadd_same_ok {x y : Int} (hx : zabs x < Top) (hy : zabs y < Top) (hn : zneg x = zneg y) (hv : zabs (x + y) < Top) (w : World) : Calls Tryz.prog 139 #[(.agg #[.bool (zneg x), .string (bs (zabs x))]), (.agg #[.bool (zneg y), .string (bs (zabs y))])] w (Made w (.tuple #[(.agg #[.bool (zneg (x + y)), .string (bs (zabs (x + y)))]), .int .i64 0])) := by
  have V1 := Lib.hid (fun W => ivalid_yes hx W)
  have V2 := Lib.hid (fun W => ivalid_yes hy W)
  have HM := Lib.hid (fun W => add_ok hx hy (by rw [← (add_same hn).2]; exact hv) W)
  have HS := Lib.hid (fun W => signed_any (zneg x) (zabs x + zabs y) W)
  rw [(add_same hn).1] at HS
  rw [← hn] at V2 ⊢
  obtain ⟨p, hp⟩ : ∃ p, p = zneg x := ⟨_, rfl⟩
  rw [← hp] at V1 V2 HS ⊢
  clear hx hy hv hn hp
  go_enter Tryz.func139, Tryz.ntmps139
  go_wp2_with fail
  refine (V1.out _).mono ?_
  rintro e w1 ⟨rfl, hb⟩
  have HB := hb
  clear hb
  obtain ⟨hc, hf⟩ := bcell HB
  go_wp2_with fail
  refine (V2.out _).mono ?_
  rintro e w2 ⟨rfl, hb⟩
  replace HB := HB.trans (hb.mono HB.size)
  clear hb hc hf
  obtain ⟨hc, hf⟩ := bcell HB
  go_wp2_with fail
  refine (HM.out _).mono ?_
  rintro e w3 ⟨rfl, hb⟩
  replace HB := HB.trans (hb.mono HB.size)
  clear hb hc hf
  obtain ⟨hc, hf⟩ := bcell HB
  go_wp2_with fail
  refine (HS.out _).mono ?_
  rintro e w4 ⟨rfl, hb⟩
  replace HB := HB.trans (hb.mono HB.size)
  clear hb hc hf
  obtain ⟨hc, hf⟩ := bcell HB
  have hz : w.heap.size + 2 < w4.heap.size := by have := HB.size; simp at this; omega
  have hB := ((((Below.refl w.heap.size w).alloc (Nat.le_refl _) (.cells #[.bool p, .string (bs (zabs x))] 38)).alloc (by simp) (.cells #[.bool p, .string (bs (zabs y))] 38)).alloc (by simp; omega) (.cells #[.bool false, .string ⟨#[]⟩] 38)).trans (HB.mono (by simp; omega))
  go_wp2
  exact bodyPost_ret (v := .tuple #[(.agg #[.bool (zneg (x + y)), .string (bs (zabs (x + y)))]), .int .i64 0]) (by simp [results, Tryz.results139, go_sem, hc]) rfl ⟨rfl, (hB.setCell (by simp; omega) _).setCell (by simp; omega) _⟩

set_option maxHeartbeats 400000 in
set_option maxRecDepth 100000 in
theorem iadd_same_long {x y : Int} (hx : zabs x < Top) (hy : zabs y < Top) (hn : zneg x = zneg y) (hv : Top ≤ zabs (x + y)) (w : World) : Calls Tryz.prog 139 #[(.agg #[.bool (zneg x), .string (bs (zabs x))]), (.agg #[.bool (zneg y), .string (bs (zabs y))])] w (Made w (.tuple #[(.agg #[.bool (zneg 0), .string (bs (zabs 0))]), .int .i64 5])) := by
  have V1 := Lib.hid (fun W => ivalid_yes hx W)
  have V2 := Lib.hid (fun W => ivalid_yes hy W)
  have HM := Lib.hid (fun W => add_long hx hy (by rw [← (add_same hn).2]; exact hv) W)
  have HS := Lib.hid (fun W => signed_any (zneg x) 0 W)
  rw [sg_none] at HS
  rw [← hn] at V2 ⊢
  obtain ⟨p, hp⟩ : ∃ p, p = zneg x := ⟨_, rfl⟩
  rw [← hp] at V1 V2 HS ⊢
  clear hx hy hv hn hp
  go_enter Tryz.func139, Tryz.ntmps139
  go_wp2_with fail
  refine (V1.out _).mono ?_
  rintro e w1 ⟨rfl, hb⟩
  have HB := hb
  clear hb
  obtain ⟨hc, hf⟩ := bcell HB
  go_wp2_with fail
  refine (V2.out _).mono ?_
  rintro e w2 ⟨rfl, hb⟩
  replace HB := HB.trans (hb.mono HB.size)
  clear hb hc hf
  obtain ⟨hc, hf⟩ := bcell HB
  go_wp2_with fail
  refine (HM.out _).mono ?_
  rintro e w3 ⟨rfl, hb⟩
  replace HB := HB.trans (hb.mono HB.size)
  clear hb hc hf
  obtain ⟨hc, hf⟩ := bcell HB
  go_wp2_with fail
  refine (HS.out _).mono ?_
  rintro e w4 ⟨rfl, hb⟩
  replace HB := HB.trans (hb.mono HB.size)
  clear hb hc hf
  obtain ⟨hc, hf⟩ := bcell HB
  have hz : w.heap.size + 2 < w4.heap.size := by have := HB.size; simp at this; omega
  have hB := ((((Below.refl w.heap.size w).alloc (Nat.le_refl _) (.cells #[.bool p, .string (bs (zabs x))] 38)).alloc (by simp) (.cells #[.bool p, .string (bs (zabs y))] 38)).alloc (by simp; omega) (.cells #[.bool false, .string ⟨#[]⟩] 38)).trans (HB.mono (by simp; omega))
  go_wp2
  exact bodyPost_ret (v := .tuple #[(.agg #[.bool (zneg 0), .string (bs (zabs 0))]), .int .i64 5]) (by simp [results, Tryz.results139, go_sem, hc]) rfl ⟨rfl, (hB.setCell (by simp; omega) _).setCell (by simp; omega) _⟩

end Go.Proofs.YtmiafkbjmkaebaaGreat
