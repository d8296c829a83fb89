/-
  modular.Join returns a number with both remainders.
-/
import Derived.Test.YtppdolmeeiookaaGreatModT
namespace Go.Proofs.YtppdolmeeiookaaGreat
open Go.RowKit Num

theorem inv_ex {u v : Nat} (hv : v ≠ 0) (hg : Nat.gcd u v = 1) : ∃ X : Nat, X < v ∧ u * X % v = 1 % v ∧ ∃ Y : Int, (u : Int) * X + (v : Int) * Y = 1 := by
  obtain ⟨h1, _⟩ := bez_spec v u
  obtain ⟨x, Y, e1, e2, e3⟩ : ∃ x Y : Int, IsExt u v x Y := ⟨_, _, ext_of hv h1⟩
  rw [hg] at e1 e3
  rw [Nat.div_one] at e3
  obtain ⟨X, rfl⟩ := Int.eq_ofNat_of_zero_le e2
  refine ⟨X, by omega, ?_, Y, by simpa using e1⟩
  have h : ((u * X : Nat) : Int) = 1 + (v : Int) * (-Y) := by rw [Int.natCast_mul, Int.mul_neg]; simp at e1; omega
  have h2 : ((u * X % v : Nat) : Int) = ((1 % v : Nat) : Int) := by
    rw [Int.natCast_emod, h, Int.add_mul_emod_self_left, Int.natCast_emod]
    rfl
  exact Int.ofNat.inj h2

theorem valid_yes' {n : Nat} (h : n < Top) (w : World) : Calls Tryz.prog 39 #[.string (bs n)] w (Same w (.bool true)) := by
  refine (valid_yes h w).mono ?_
  rintro e w' ⟨rfl, rfl⟩
  exact ⟨rfl, rfl⟩

theorem join_math (a m b n : Nat) (hm0 : m ≠ 0) (hn0 : n ≠ 0) (hc : a % Nat.gcd m n = b % Nat.gcd m n) : ∃ (u v X K R : Nat) (Q : Int), Nat.gcd m n ≠ 0 ∧ m = Nat.gcd m n * u ∧ n = Nat.gcd m n * v ∧ Nat.gcd u v = 1 ∧ v ≠ 0 ∧ u ≠ 0 ∧ X < v ∧ u * X % v = 1 % v ∧
    (b : Int) - (a % m : Nat) = (Nat.gcd m n : Nat) * Q ∧ (R : Int) = Q % (v : Int) ∧ R < v ∧ K = R * X % v ∧ K < v ∧ (a % m + m * K) % n = b % n := by
  obtain ⟨hg, h1, h2, hv⟩ := gcd_parts (a := m) hn0
  have hco : Nat.gcd (m / Nat.gcd m n) (n / Nat.gcd m n) = 1 := by
    have := Nat.gcd_mul_left (Nat.gcd m n) (m / Nat.gcd m n) (n / Nat.gcd m n)
    rw [← h1, ← h2] at this
    exact Nat.eq_of_mul_eq_mul_left (Nat.pos_of_ne_zero hg) (by rw [← this, Nat.mul_one])
  have hgm : a % m % Nat.gcd m n = a % Nat.gcd m n := Nat.mod_mod_of_dvd _ (Nat.gcd_dvd_left m n)
  generalize m / Nat.gcd m n = u at *
  generalize n / Nat.gcd m n = v at *
  generalize Nat.gcd m n = g at *
  have hu : u ≠ 0 := by rintro rfl; omega
  obtain ⟨X, hX, hX1, Y, hY⟩ := inv_ex hv hco
  obtain ⟨am, ham⟩ : ∃ x, x = a % m := ⟨_, rfl⟩
  rw [← ham] at hgm ⊢
  have hz : ∃ Q : Int, (b : Int) - (am : Nat) = (g : Int) * Q := by
    have e1 := Nat.div_add_mod am g
    have e2 := Nat.div_add_mod b g
    rw [hgm, hc] at e1
    refine ⟨((b / g : Nat) : Int) - ((am / g : Nat) : Int), ?_⟩
    rw [Int.mul_sub, ← Int.natCast_mul, ← Int.natCast_mul]
    omega
  obtain ⟨Q, hQ⟩ := hz
  have hvi : (v : Int) ≠ 0 := by omega
  have hR0 := Int.emod_nonneg Q hvi
  have hR1 := Int.emod_lt_of_pos Q (show (0 : Int) < v by omega)
  obtain ⟨R, hR⟩ := Int.eq_ofNat_of_zero_le hR0
  refine ⟨u, v, X, R * X % v, R, Q, hg, h1, h2, hco, hv, hu, hX, hX1, hQ, by rw [hR], by omega, rfl, Nat.mod_lt _ (Nat.pos_of_ne_zero hv), ?_⟩
  -- m K = g u R X = g (Q + v t) modulo n
  obtain ⟨t1, ht1⟩ : ∃ t : Int, ((R * X % v : Nat) : Int) = (R : Int) * X + (v : Int) * t := by
    refine ⟨-((R * X / v : Nat) : Int), ?_⟩
    have := Nat.div_add_mod (R * X) v
    have e : (v : Int) * ((R * X / v : Nat) : Int) = ((v * (R * X / v) : Nat) : Int) := by rw [Int.natCast_mul]
    rw [Int.mul_neg, e, ← Int.natCast_mul]
    omega
  obtain ⟨t2, ht2⟩ : ∃ t : Int, (R : Int) = Q + (v : Int) * t := ⟨-(Q / v), by
    have := Int.mul_ediv_add_emod Q v
    rw [hR] at this
    rw [Int.mul_neg]
    have e : (Int.ofNat R) = (R : Int) := rfl
    omega⟩
  have hfin : ((am + m * (R * X % v) : Nat) : Int) = (b : Int) + (n : Int) * (t2 - Q * Y - v * t2 * Y + u * t1) := by
    rw [Int.natCast_add, Int.natCast_mul, ht1, h1, h2]
    have hux : (u : Int) * X = 1 - v * Y := by omega
    have e : ((g * u : Nat) : Int) * ((R : Int) * X + v * t1) = (g : Int) * (R * ((u : Int) * X)) + g * v * (u * t1) := by
      rw [Int.natCast_mul, Int.mul_add]
      congr 1 <;> ac_rfl
    rw [e, hux, ht2]
    have hb : (b : Int) = am + g * Q := by omega
    rw [hb, Int.natCast_mul]
    simp only [Int.mul_add, Int.mul_sub, Int.add_mul, Int.mul_one]
    have e1 : (g : Int) * (Q * (v * Y)) = g * v * (Q * Y) := by ac_rfl
    have e2 : (g : Int) * (v * t2 * (v * Y)) = g * v * (v * t2 * Y) := by ac_rfl
    have e3 : (g : Int) * (v * t2) = g * v * t2 := by ac_rfl
    rw [e1, e2, e3]
    omega
  have h3 : (((am + m * (R * X % v)) % n : Nat) : Int) = ((b % n : Nat) : Int) := by
    rw [Int.natCast_emod, hfin, Int.add_mul_emod_self_left, Int.natCast_emod]
  exact Int.ofNat.inj h3

set_option maxRecDepth 100000 in
theorem mjoin_ok (a m b n : Nat) (ha : a < Top) (hb : b < Top) (hm0 : m ≠ 0) (hm : m < 256 ^ 60) (hn0 : n ≠ 0) (hn : n < 256 ^ 60) (hl : m * (n / Nat.gcd m n) < Top) (hc : a % Nat.gcd m n = b % Nat.gcd m n) :
    ∃ x : Nat, (∀ W, Calls Tryz.prog 22 #[.string (bs a), .string (bs m), .string (bs b), .string (bs n)] W (Made W (.tuple #[.string (bs x), .string (bs (m * (n / Nat.gcd m n))), .int .i64 0]))) ∧ x % m = a % m ∧ x % n = b % n ∧ x < m * (n / Nat.gcd m n) := by
  obtain ⟨u, v, X, K, R, Q, hg, h1, h2, hco, hv, hu, hX, hX1, hQ, hR, hRv, hK, hKv, hx⟩ := join_math a m b n hm0 hn0 hc
  have hvn : n / Nat.gcd m n = v := by
    have : Nat.gcd m n * v / Nat.gcd m n = v := Nat.mul_div_cancel_left v (Nat.pos_of_ne_zero hg)
    rwa [← h2] at this
  have hum : m / Nat.gcd m n = u := by
    have : Nat.gcd m n * u / Nat.gcd m n = u := Nat.mul_div_cancel_left u (Nat.pos_of_ne_zero hg)
    rwa [← h1] at this
  have hg1 : m % Nat.gcd m n = 0 := Nat.mod_eq_zero_of_dvd (Nat.gcd_dvd_left m n)
  have hg2 : n % Nat.gcd m n = 0 := Nat.mod_eq_zero_of_dvd (Nat.gcd_dvd_right m n)
  have hgm : Nat.gcd m n ≤ m := Nat.le_of_dvd (Nat.pos_of_ne_zero hm0) (Nat.gcd_dvd_left m n)
  have hvl : v ≤ n := by rw [← hvn]; exact Nat.div_le_self _ _
  have hul : u ≤ m := by rw [← hum]; exact Nat.div_le_self _ _
  rw [hvn] at hl ⊢
  have hmT := lt_top60 hm
  have hnT := lt_top60 hn
  have ham := Nat.mod_lt a (Nat.pos_of_ne_zero hm0)
  have hmK : a % m + m * K < m * v := by
    have : m * K + m ≤ m * v := by rw [← Nat.mul_succ]; exact Nat.mul_le_mul_left m hKv
    omega
  generalize hG : Nat.gcd m n = g at *
  obtain ⟨z, hz⟩ : ∃ z : Int, z = (b : Int) - ((a % m : Nat) : Int) := ⟨_, rfl⟩
  rw [← hz] at hQ
  have hzT : zabs z < Top := by unfold zabs; rw [hz]; omega
  have hgi : (g : Int) ≠ 0 := by omega
  have hzq : z / (g : Int) = Q := by rw [hQ]; exact Int.mul_ediv_cancel_left Q hgi
  have hzr : z % (g : Int) = 0 := by rw [hQ]; exact Int.mul_emod_right _ _
  have hQT : zabs Q < Top := by
    refine Nat.lt_of_le_of_lt ?_ hzT
    rw [hQ, zabs_mul, zabs_nat]
    exact Nat.le_mul_of_pos_left _ (Nat.pos_of_ne_zero hg)
  have hRz : zabs (Q % (v : Int)) = R := by rw [← hR, zabs_nat]
  refine ⟨a % m + m * K, fun W => mjoin_core a m b n g (a % g) v (m * v) (a % m) K (m * K) (a % m + m * K) W hm0 (fun W => valid_yes' hmT W) (fun W g' k1 k2 k3 => mcheck2 a b n ha hb hn0 hnT W g' k1 k2 k3) (fun W => ?_) (fun W => mremainder_ok a g W ha hg (by omega)) (fun W => ?_)
    (fun W => ?_) (fun W => mul_ok hmT (by omega) (by omega) W) (fun W => mremainder_ok a m W ha hm0 hmT) (fun W => ?_) (fun W => mul_ok hmT (by omega) (by omega) W) (fun W => add_ok (by omega) (by omega) (by omega) W), ?_, hx, hmK⟩
  · have := gcd_ok hmT hnT W
    rwa [hG] at this
  · have := mremainder_ok b g W hb hg (by omega)
    rwa [← hc] at this
  · have := divmod_ok (a := n) (b := g) hnT (by omega) hg W
    rwa [hvn, hg2] at this
  · refine msteps_core (a % m) m b g v u K X R z Q W (fun W => from_yes hb W) (fun W => from_yes (by omega) W) (fun W => from_yes (by omega) W) (fun W => ?_) (fun W => ?_) (fun W => ?_) (fun W => ?_) (fun W => ?_) (fun W => ?_)
    · have := isub_ok (x := (b : Int)) (y := ((a % m : Nat) : Int)) (by rw [zabs_nat]; exact hb) (by rw [zabs_nat]; omega) (by rw [← hz]; exact hzT) W
      rwa [← hz] at this
    · refine idivide_ok W fun W => ?_
      have := idivmod_ok (x := z) (y := (g : Int)) hzT (by rw [zabs_nat]; omega) (by rw [zabs_nat]; exact hg) W
      rw [hzq, hzr] at this
      exact this
    · have := imod_ok (x := Q) (m := v) hQT (by omega) hv W
      rwa [hRz] at this
    · have := divmod_ok (a := m) (b := g) hmT (by omega) hg W
      rwa [hum, hg1] at this
    · exact minverse_ok u v X W (by omega) (by omega) hv hco hX hX1
    · have := mmul_ok R X v W (by omega) (by omega) hv (by omega)
      rwa [← hK] at this
  · rw [Nat.add_mul_mod_self_left, Nat.mod_mod]

theorem mjoin_no (a m b n : Nat) (ha : a < Top) (hb : b < Top) (hm0 : m ≠ 0) (hm : m < Top) (hn0 : n ≠ 0) (hn : n < Top) (hc : a % Nat.gcd m n ≠ b % Nat.gcd m n) (W : World) :
    Calls Tryz.prog 22 #[.string (bs a), .string (bs m), .string (bs b), .string (bs n)] W (Made W (.tuple #[.string (bs 0), .string (bs 0), .int .i64 9])) := by
  have hg : Nat.gcd m n ≠ 0 := fun h => hm0 (Nat.eq_zero_of_gcd_eq_zero_left h)
  have hgm : Nat.gcd m n ≤ m := Nat.le_of_dvd (Nat.pos_of_ne_zero hm0) (Nat.gcd_dvd_left m n)
  exact mjoin_none a m b n (Nat.gcd m n) (a % Nat.gcd m n) (b % Nat.gcd m n) W hm0 hc (fun W => valid_yes' hm W) (fun W g' k1 k2 k3 => mcheck2 a b n ha hb hn0 hn W g' k1 k2 k3) (fun W => gcd_ok hm hn W) (fun W => mremainder_ok a _ W ha hg (by omega)) (fun W => mremainder_ok b _ W hb hg (by omega))

end Go.Proofs.YtppdolmeeiookaaGreat
