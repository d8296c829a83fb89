/-
  Lucas's test with a complete factorisation: a checker for chains of certificates, and the twelve Mersenne primes of up to 127 bits. Plain arithmetic.
-/
import Derived.Test.YtnnohjabneepiaaPriS
namespace Go.Proofs.Ytnnohjabneepiaa
open Go.RowKit Num QR

theorem pow_one_mul {r a k : Nat} (hk : a ^ k % r = 1 % r) (m : Nat) : a ^ (k * m) % r = 1 % r := by
  rw [Nat.pow_mul, Nat.pow_mod, hk, ← Nat.pow_mod, Nat.one_pow]
/-- The order of a divides every exponent that yields 1. -/
theorem ord_div {r a k m : Nat} (hk : a ^ k % r = 1 % r) (k0 : 0 < k) (hmin : ∀ j, j < k → ¬ (0 < j ∧ a ^ j % r = 1 % r)) (hm : a ^ m % r = 1 % r) : k ∣ m := by
  have h1 : a ^ m % r = a ^ (m % k) % r := by
    conv => lhs; rw [← Nat.div_add_mod m k]
    rw [Nat.pow_add, Nat.mul_mod, pow_one_mul hk, ← Nat.mul_mod, Nat.one_mul]
  have h2 := Nat.mod_lt m k0
  rcases Nat.eq_zero_or_pos (m % k) with h3 | h3
  · exact Nat.dvd_of_mod_eq_zero h3
  · exact absurd ⟨h3, h1 ▸ hm⟩ (hmin _ h2)
theorem prime_div {n : Nat} (h : 2 ≤ n) : ∃ p, IsP p ∧ p ∣ n := by
  obtain ⟨p, hp, hl⟩ := least_ex (fun d => 2 ≤ d ∧ d ∣ n) n ⟨h, Nat.dvd_refl n⟩
  have hL : Least p n := ⟨hp.1, hp.2, fun d hd he => by
    rcases Nat.lt_or_ge d p with h5 | h5
    · exact absurd ⟨hd, he⟩ (hl d h5)
    · exact h5⟩
  exact ⟨p, hL.prime, hp.2⟩
/-- Fermat, also for 2. -/
theorem fermat' {r a : Nat} (h : IsP r) (ha : a % r ≠ 0) : a ^ (r - 1) % r = 1 % r := by
  have h2 := h.1
  rcases (show r % 2 = 1 ∨ r % 2 = 0 by omega) with ho | he
  · rw [fermat h ho ha, Nat.mod_eq_of_lt (by omega)]
  · have : r = 2 := by
      rcases h.2 2 (Nat.dvd_of_mod_eq_zero he) with h3 | h3
      · omega
      · exact h3.symm
    subst this
    rw [show 2 - 1 = 1 from rfl, Nat.pow_one]
    omega
theorem lucas {n a : Nat} (h2 : 2 ≤ n) (h1 : a ^ (n - 1) % n = 1) (hq : ∀ q, IsP q → q ∣ n - 1 → Nat.gcd ((a ^ ((n - 1) / q) + (n - 1)) % n) n = 1) : IsP n := by
  obtain ⟨r, hr, hd⟩ := prime_div h2
  have hr2 := hr.1
  have h1r : a ^ (n - 1) % r = 1 % r := by rw [← Nat.mod_mod_of_dvd _ hd, h1]
  have ha : a % r ≠ 0 := by
    intro h0
    have : a ^ (n - 1) % r = 0 := by
      rw [Nat.pow_mod, h0, Nat.zero_pow (by omega)]
      exact Nat.zero_mod _
    rw [this, Nat.mod_eq_of_lt (show 1 < r by omega)] at h1r
    exact absurd h1r (by decide)
  obtain ⟨k, ⟨k0, hk⟩, hmin⟩ := least_ex (fun j => 0 < j ∧ a ^ j % r = 1 % r) (n - 1) ⟨by omega, h1r⟩
  have hkn := ord_div hk k0 hmin h1r
  have hkr := ord_div hk k0 hmin (fermat' hr ha)
  have hkk : k = n - 1 := by
    obtain ⟨c, hc⟩ := hkn
    rcases Nat.lt_or_ge 1 c with hc2 | hc2
    · exfalso
      obtain ⟨q, hqp, hqd⟩ := prime_div (show 2 ≤ c by omega)
      obtain ⟨d, hd2⟩ := hqd
      have hqn : q ∣ n - 1 := ⟨k * d, by rw [hc, hd2, Nat.mul_left_comm]⟩
      have hdiv : (n - 1) / q = k * d := by
        rw [hc, hd2, Nat.mul_left_comm]
        exact Nat.mul_div_cancel_left _ (by have := hqp.1; omega)
      have hg := hq q hqp hqn
      have h3 : (a ^ ((n - 1) / q) + (n - 1)) % r = 0 := by
        rw [hdiv, Nat.add_mod, pow_one_mul hk, ← Nat.add_mod, show 1 + (n - 1) = n from by omega]
        exact Nat.mod_eq_zero_of_dvd hd
      have h4 : r ∣ Nat.gcd ((a ^ ((n - 1) / q) + (n - 1)) % n) n := Nat.dvd_gcd (Nat.dvd_of_mod_eq_zero (by rw [Nat.mod_mod_of_dvd _ hd]; exact h3)) hd
      rw [hg] at h4
      have := Nat.le_of_dvd (by decide) h4
      omega
    · have : c = 1 := by
        rcases (show c = 0 ∨ c = 1 by omega) with h | h
        · subst h; omega
        · exact h
      subst this
      omega
  have h5 := Nat.le_of_dvd (by omega) hkr
  have h6 := Nat.le_of_dvd (by omega) hd
  have : r = n := by omega
  exact this ▸ hr

/-- Fast powers modulo n. -/
def pm (n : Nat) : Nat → Nat → Nat → Nat
  | 0, _, _ => 1 % n
  | f + 1, a, e => if e = 0 then 1 % n else if e % 2 = 0 then pm n f (a * a % n) (e / 2) else a * pm n f (a * a % n) (e / 2) % n
theorem pm_spec (n : Nat) : ∀ (f a e : Nat), e < 2 ^ f → pm n f a e = a ^ e % n := by
  intro f
  induction f with
  | zero =>
    intro a e h
    have : e = 0 := by simpa using h
    subst this
    simp [pm]
  | succ f ih =>
    intro a e h
    unfold pm
    by_cases h0 : e = 0
    · subst h0; simp
    · rw [if_neg h0]
      have h3 : e / 2 < 2 ^ f := by rw [Nat.pow_succ] at h; omega
      have h4 : pm n f (a * a % n) (e / 2) = (a * a) ^ (e / 2) % n := by rw [ih _ _ h3, ← Nat.pow_mod]
      have h5 : (a * a) ^ (e / 2) = a ^ (2 * (e / 2)) := by rw [Nat.pow_mul, show a ^ 2 = a * a from by rw [Nat.pow_succ, Nat.pow_one]]
      rw [h4, h5]
      by_cases he : e % 2 = 0
      · rw [if_pos he, show 2 * (e / 2) = e from by omega]
      · rw [if_neg he, Nat.mul_mod, Nat.mod_mod, ← Nat.mul_mod, ← Nat.pow_succ', show (2 * (e / 2)).succ = e from by omega]

def mulP (l : List Nat) : Nat := l.foldr (· * ·) 1
theorem prime_in {q : Nat} (h : IsP q) : ∀ l : List Nat, (∀ p, p ∈ l → IsP p) → q ∣ mulP l → q ∈ l := by
  intro l
  induction l with
  | nil =>
    intro _ hd
    have := Nat.le_of_dvd (by decide) (show q ∣ 1 from hd)
    have := h.1
    omega
  | cons p t ih =>
    intro hp hd
    by_cases h1 : p % q = 0
    · rcases (hp p (by simp)).2 q (Nat.dvd_of_mod_eq_zero h1) with h2 | h2
      · have := h.1; omega
      · simp [h2]
    · by_cases h2 : mulP t % q = 0
      · exact List.mem_cons_of_mem _ (ih (fun x hx => hp x (List.mem_cons_of_mem _ hx)) (Nat.dvd_of_mod_eq_zero h2))
      · exact absurd (Nat.mod_eq_zero_of_dvd hd) (h.mul h1 h2)
/-- One step of a chain: n, a base, the prime factors of n - 1, which are known. -/
def chk1 (known : List Nat) (n a : Nat) (l : List Nat) : Bool :=
  decide (2 ≤ n) && decide (n < 2 ^ 128) && l.all (fun q => known.contains q) && decide (mulP l = n - 1) && decide (pm n 128 a (n - 1) = 1) && l.all (fun q => decide (Nat.gcd ((pm n 128 a ((n - 1) / q) + (n - 1)) % n) n = 1))
theorem chk1_ok {known l : List Nat} {n a : Nat} (hk : ∀ q, q ∈ known → IsP q) (h : chk1 known n a l = true) : IsP n := by
  unfold chk1 at h
  simp only [Bool.and_eq_true, decide_eq_true_eq, List.all_eq_true, List.contains_eq_mem] at h
  obtain ⟨⟨⟨⟨⟨h1, h2⟩, h3⟩, h4⟩, h5⟩, h6⟩ := h
  rw [pm_spec n 128 a (n - 1) (by omega)] at h5
  refine lucas h1 h5 (fun q hq hd => ?_)
  have hin := prime_in hq l (fun p hp => hk p (h3 p hp)) (by rw [h4]; exact hd)
  have h7 := h6 q hin
  rw [pm_spec n 128 a ((n - 1) / q) (by have := Nat.div_le_self (n - 1) q; omega), Nat.add_mod, Nat.mod_mod, ← Nat.add_mod] at h7
  exact h7
def chkAll : List Nat → List (Nat × Nat × List Nat) → Bool
  | _, [] => true
  | known, (n, a, l) :: t => chk1 known n a l && chkAll (n :: known) t
theorem chkAll_ok : ∀ (t : List (Nat × Nat × List Nat)) (known : List Nat), (∀ q, q ∈ known → IsP q) → chkAll known t = true → ∀ x, x ∈ t → IsP x.1 := by
  intro t
  induction t with
  | nil => intro _ _ _ x hx; simp at hx
  | cons e t ih =>
    obtain ⟨n, a, l⟩ := e
    intro known hk h x hx
    unfold chkAll at h
    rw [Bool.and_eq_true] at h
    have hn := chk1_ok hk h.1
    rcases List.mem_cons.1 hx with rfl | hx
    · exact hn
    · refine ih (n :: known) (fun q hq => ?_) h.2 x hx
      rcases List.mem_cons.1 hq with rfl | hq
      · exact hn
      · exact hk q hq
def tabP : List (Nat × Nat × List Nat) := [(3, 2, [2]), (7, 3, [2, 3]), (5, 2, [2, 2]), (31, 3, [2, 3, 5]), (127, 3, [2, 3, 3, 7]), (13, 2, [2, 2, 3]), (8191, 17, [2, 3, 3, 5, 7, 13]), (257, 3, [2, 2, 2, 2, 2, 2, 2, 2]), (17, 3, [2, 2, 2, 2]), (131071, 3, [2, 3, 5, 17, 257]), (73, 5, [2, 2, 2, 3, 3]), (19, 2, [2, 3, 3]), (524287, 3, [2, 3, 3, 3, 7, 19, 73]), (11, 2, [2, 5]), (331, 3, [2, 3, 5, 11]), (151, 6, [2, 3, 5, 5]), (2147483647, 7, [2, 3, 3, 7, 11, 31, 151, 331]), (41, 6, [2, 2, 2, 5]), (1321, 13, [2, 2, 2, 3, 5, 11]), (61, 2, [2, 2, 3, 5]), (2305843009213693951, 37, [2, 3, 3, 5, 5, 7, 11, 13, 31, 41, 61, 151, 331, 1321]), (353, 3, [2, 2, 2, 2, 2, 11]), (2113, 5, [2, 2, 2, 2, 2, 2, 3, 11]), (683, 5, [2, 11, 31]), (397, 5, [2, 2, 3, 3, 11]), (29, 2, [2, 2, 7]), (1451, 2, [2, 5, 5, 29]), (8707, 5, [2, 3, 1451]), (239, 7, [2, 7, 17]), (1913, 3, [2, 2, 2, 239]), (2931542417, 3, [2, 2, 2, 2, 11, 1913, 8707]), (23, 5, [2, 11]), (89, 3, [2, 2, 2, 11]), (618970019642690137449562111, 3, [2, 3, 5, 17, 23, 89, 353, 397, 683, 2113, 2931542417]), (37, 2, [2, 2, 3, 3]), (53, 2, [2, 2, 13]), (20394401, 3, [2, 2, 2, 2, 2, 5, 5, 13, 37, 53]), (131, 2, [2, 5, 13]), (137, 3, [2, 2, 2, 17]), (1097, 3, [2, 2, 2, 137]), (67254877, 2, [2, 2, 3, 3, 13, 131, 1097]), (28059810762433, 5, [2, 2, 2, 2, 2, 2, 3, 41, 53, 67254877]), (107, 2, [2, 53]), (69431, 13, [2, 5, 53, 131]), (6361, 19, [2, 2, 2, 3, 5, 53]), (162259276829213363391578010288127, 3, [2, 3, 107, 6361, 69431, 20394401, 28059810762433]), (92737, 5, [2, 2, 2, 2, 2, 2, 3, 3, 7, 23]), (174763, 17, [2, 3, 3, 7, 19, 73]), (699053, 2, [2, 2, 174763]), (77158673929, 11, [2, 2, 2, 3, 3, 3, 7, 73, 699053]), (43, 3, [2, 3, 7]), (5419, 3, [2, 3, 3, 7, 43]), (337, 10, [2, 2, 2, 2, 3, 7]), (1289, 6, [2, 2, 2, 7, 23]), (649657, 5, [2, 2, 2, 3, 3, 7, 1289]), (170141183460469231731687303715884105727, 43, [2, 3, 3, 3, 7, 7, 19, 43, 73, 127, 337, 5419, 92737, 649657, 77158673929])]
theorem tabP_ok : chkAll [2] tabP = true := by decide +kernel
theorem two_isP : IsP 2 := isP_small (by decide) (by decide)
theorem tab_prime {n : Nat} (h : (tabP.map (·.1)).contains n = true) : IsP n := by
  rw [List.contains_eq_mem, decide_eq_true_eq, List.mem_map] at h
  obtain ⟨x, hx, rfl⟩ := h
  exact chkAll_ok tabP [2] (fun q hq => by rw [List.mem_singleton.1 hq]; exact two_isP) tabP_ok x hx
/-- The twelve Mersenne primes. -/
theorem mers_prime {k : Nat} (h : k ∈ [2, 3, 5, 7, 13, 17, 19, 31, 61, 89, 107, 127]) : IsP (2 ^ k - 1) := by
  refine tab_prime ?_
  have h2 : ∀ j, j ∈ [2, 3, 5, 7, 13, 17, 19, 31, 61, 89, 107, 127] → (tabP.map (·.1)).contains (2 ^ j - 1) = true := by decide +kernel
  exact h2 k h
end Go.Proofs.Ytnnohjabneepiaa
