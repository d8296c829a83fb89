/-
  Strong probable primes, in plain arithmetic: strongN n a, isPN n; the tests of dominoref04 and of prime reckon these. dominoref04: Formed, U, AddMod, MulMod, ExpMod, Mod, StrongU. prime.small, twos, power, Strong, isStrong. dominoref04: Mod, StrongU, IsU, Is, Strong, NextU, Next, Safe. prime.isStrong, firstPrimes, isPrime, Is, Next, Safe. dominoref04: StrongU, IsU, Is, Strong, NextU, Next, Safe.
-/
import Derived.Test.YtmiafkbjmkaebaaGreatRecip
import Derived.Deep.RegionHeld3
import Derived.Test.YtmiafkbjmkaebaaGreatNatA
import Derived.Test.YtmiafkbjmkaebaaGreatModR
import Derived.Test.YtmiafkbjmkaebaaGreatModU
import Derived.Test.YtmiafkbjmkaebaaGreatModV
import Derived.Deep.RegionWith
import Derived.WalkMore
import Derived.Laws.PanicsMore
import Derived.Laws.Rows
namespace Go.Proofs.YtmiafkbjmkaebaaGreat

/-- The number of factors two. -/
def tzP (a : Nat) : Nat := if h : a ≠ 0 ∧ a % 2 = 0 then tzP (a / 2) + 1 else 0
termination_by a
decreasing_by omega
theorem tzP_even {a : Nat} (h0 : a ≠ 0) (h : a % 2 = 0) : tzP a = tzP (a / 2) + 1 ∧ a / 2 ^ tzP a = a / 2 / 2 ^ tzP (a / 2) := by
  have e : tzP a = tzP (a / 2) + 1 := by
    conv => lhs; unfold tzP
    rw [dif_pos ⟨h0, h⟩]
  refine ⟨e, ?_⟩
  rw [e, Nat.pow_succ, Nat.mul_comm, ← Nat.div_div_eq_div_mul]
theorem tzP_odd {a : Nat} (h : a % 2 = 1) : tzP a = 0 ∧ a / 2 ^ tzP a = a := by
  have e : tzP a = 0 := by
    unfold tzP
    rw [dif_neg (by omega)]
  exact ⟨e, by rw [e]; simp⟩
theorem tzP_spec (a : Nat) (h : a ≠ 0) : a = 2 ^ tzP a * (a / 2 ^ tzP a) ∧ (a / 2 ^ tzP a) % 2 = 1 := by
  induction a using Nat.strongRecOn with
  | _ a ih =>
    rcases (show a % 2 = 0 ∨ a % 2 = 1 by omega) with h2 | h2
    · obtain ⟨e1, e2⟩ := ih (a / 2) (by omega) (by omega)
      obtain ⟨g1, g2⟩ := tzP_even h h2
      rw [g2]
      refine ⟨?_, e2⟩
      rw [g1, Nat.pow_succ, Nat.mul_comm (2 ^ tzP (a / 2)) 2, Nat.mul_assoc, ← e1]
      omega
    · obtain ⟨g1, g2⟩ := tzP_odd h2
      rw [g2, g1]
      simp
      exact h2

/-- The squares: does one of x, x^2, .. (s of them) reach n - 1? -/
def strongL (n : Nat) : Nat → Nat → Bool
  | 0, _ => false
  | s + 1, x => if x = n - 1 then true else strongL n s (x * x % n)
/-- Is n a strong probable prime to the base a? -/
def strongN (n a : Nat) : Bool :=
  if n % 2 = 0 ∨ n = 1 then decide (n = 2)
  else if a % n = 0 then true
  else if a ^ ((n - 1) / 2 ^ tzP (n - 1)) % n = 1 then true
  else strongL n (tzP (n - 1)) (a ^ ((n - 1) / 2 ^ tzP (n - 1)) % n)

theorem strongN_mod (n a : Nat) : strongN n (a % n) = strongN n a := by
  unfold strongN
  rw [Nat.mod_mod, ← Nat.pow_mod]

/-- The first twelve primes. -/
def firstP : List Nat := [2, 3, 5, 7, 11, 13, 17, 19, 23, 29, 31, 37]
/-- What both tests answer. -/
def isPN (n : Nat) : Bool := decide (2 ≤ n) && (firstP.contains n || firstP.all fun p => decide (n % p ≠ 0) && strongN n p)

open QR
theorem fermat {p a : Nat} (h : IsP p) (ho : p % 2 = 1) (ha : a % p ≠ 0) : a ^ (p - 1) % p = 1 := by
  have h2 := h.1
  have e := euler h ho ha
  obtain ⟨x, hx⟩ : ∃ x, x = a ^ ((p - 1) / 2) := ⟨_, rfl⟩
  rw [← hx] at e
  have ea : a ^ (p - 1) = x * x := by rw [hx, ← Nat.pow_add]; congr 1; omega
  rw [ea]
  have hd : (p : Int) ∣ ((x * x : Nat) : Int) - 1 := by
    rcases G_one_or a p with hG | hG
    · rw [hG, Int.one_mul] at e
      have := Int.dvd_trans e (Int.dvd_mul_left (-(1 + (x : Int))) _)
      rw [show -(1 + (x : Int)) * (1 - (x : Int)) = ((x * x : Nat) : Int) - 1 from by rw [Int.natCast_mul, Int.neg_mul, Int.mul_sub, Int.mul_one, Int.add_mul, Int.one_mul]; omega] at this
      exact this
    · rw [hG] at e
      have := Int.dvd_trans e (Int.dvd_mul_left ((x : Int) - 1) _)
      rw [show ((x : Int) - 1) * (1 - -1 * (x : Int)) = ((x * x : Nat) : Int) - 1 from by rw [Int.natCast_mul, Int.mul_sub, Int.sub_mul, Int.sub_mul]; simp only [Int.neg_mul, Int.one_mul, Int.mul_neg, Int.mul_one]; omega] at this
      exact this
  obtain ⟨k, hk⟩ := hd
  have := Nat.div_add_mod (x * x) p
  have hl := Nat.mod_lt (x * x) (show p > 0 by omega)
  have h5 : (p : Int) ∣ ((x * x % p : Nat) : Int) - 1 := by
    refine ⟨k - ((x * x / p : Nat) : Int), ?_⟩
    rw [Int.mul_sub, ← hk, ← Int.natCast_mul]
    omega
  have := dvd_small h5 (by omega) (by omega)
  omega
theorem root_one {p x : Nat} (h : IsP p) (hx : x < p) (e : x * x % p = 1) : x = 1 ∨ x = p - 1 := by
  have h2 := h.1
  have h0 : x ≠ 0 := by
    rintro rfl
    simp at e
  by_cases h1 : x = 1
  · exact .inl h1
  · by_cases h3 : x = p - 1
    · exact .inr h3
    · exfalso
      have e6 : (x - 1) * (x + 1) % p = 0 := by
        have e7 : x * x = (x - 1) * (x + 1) + 1 := by
          obtain ⟨u, rfl⟩ : ∃ u, x = u + 1 := ⟨x - 1, by omega⟩
          simp only [Nat.add_sub_cancel, Nat.add_mul, Nat.mul_add, Nat.one_mul, Nat.mul_one]
          omega
        have := Nat.sub_mod_eq_zero_of_mod_eq (m := x * x) (n := 1) (k := p) (by rw [e, Nat.mod_eq_of_lt (show 1 < p by omega)])
        rw [e7, Nat.add_sub_cancel] at this
        exact this
      exact h.mul (x := x - 1) (y := x + 1) (mod_self_of (by omega) (by omega)) (mod_self_of (by omega) (by omega)) e6
theorem strongL_prime {p : Nat} (h : IsP p) : ∀ (s x : Nat), x < p → x ≠ 1 → x ^ (2 ^ s) % p = 1 → strongL p s x = true := by
  intro s
  induction s with
  | zero =>
    intro x hx h1 e
    rw [Nat.pow_zero, Nat.pow_one, Nat.mod_eq_of_lt hx] at e
    exact absurd e h1
  | succ s ih =>
    intro x hx h1 e
    unfold strongL
    by_cases hl : x = p - 1
    · rw [if_pos hl]
    · rw [if_neg hl]
      refine ih (x * x % p) (Nat.mod_lt _ (by omega)) (fun e1 => ?_) ?_
      · rcases root_one h hx e1 with h5 | h5
        · exact h1 h5
        · exact hl h5
      · rw [← Nat.pow_mod, ← Nat.pow_two, ← Nat.pow_mul]
        rw [Nat.pow_succ, Nat.mul_comm] at e
        exact e
/-- A prime is a strong probable prime to every base. -/
theorem prime_strong {p : Nat} (h : IsP p) (a : Nat) : strongN p a = true := by
  have h2 := h.1
  unfold strongN
  split
  · rename_i hc
    rcases hc with hc | hc
    · have : (2 : Nat) ∣ p := Nat.dvd_of_mod_eq_zero hc
      rcases h.2 2 this with h3 | h3 <;> simp <;> omega
    · omega
  · rename_i hc
    split
    · rfl
    · rename_i ha
      split
      · rfl
      · rename_i h1
        have hs := tzP_spec (p - 1) (by omega)
        refine strongL_prime h _ _ (Nat.mod_lt _ (by omega)) h1 ?_
        rw [← Nat.pow_mod, ← Nat.pow_mul, Nat.mul_comm, ← hs.1]
        exact fermat h (by omega) ha

/-- The test of prime.isPrime: base after base. -/
def scanP (n : Nat) : List Nat → Bool
  | [] => true
  | p :: l => if n = p then true else if n % p = 0 ∨ strongN n p = false then false else scanP n l
theorem scanP_notin (n : Nat) : ∀ l : List Nat, (∀ p, p ∈ l → n ≠ p) → scanP n l = l.all fun p => decide (n % p ≠ 0) && strongN n p := by
  intro l
  induction l with
  | nil => intro _; rfl
  | cons p l ih =>
    intro h
    rw [scanP, if_neg (h p List.mem_cons_self), List.all_cons, ih (fun q hq => h q (List.mem_cons_of_mem _ hq))]
    by_cases hp : n % p = 0
    · simp [hp]
    · rcases hb : strongN n p with _ | _ <;> simp [hp]
theorem isP_small {n : Nat} (h2 : 2 ≤ n) (h : ∀ d, d ≤ n → d ∣ n → d = 1 ∨ d = n) : IsP n := ⟨h2, fun d hd => h d (Nat.le_of_dvd (by omega) hd) hd⟩
theorem scanP_in {n : Nat} (h : IsP n) : ∀ l : List Nat, n ∈ l → (∀ p, p ∈ l → IsP p) → scanP n l = true := by
  intro l
  induction l with
  | nil => intro hn; cases hn
  | cons p l ih =>
    intro hn hp
    rw [scanP]
    by_cases e : n = p
    · rw [if_pos e]
    · rw [if_neg e, if_neg, ih (by rcases List.mem_cons.1 hn with h5 | h5; exact absurd h5 e; exact h5) (fun q hq => hp q (List.mem_cons_of_mem _ hq))]
      rintro (h5 | h5)
      · have hd := Nat.dvd_of_mod_eq_zero h5
        have hP := (hp p List.mem_cons_self).1
        rcases h.2 p hd with h6 | h6 <;> omega
      · rw [prime_strong h] at h5
        cases h5
theorem firstP_prime : ∀ p, p ∈ firstP → IsP p := by
  have key : ∀ p, p ∈ firstP → 2 ≤ p ∧ ∀ d, d < p → d ≤ 1 ∨ p % d ≠ 0 := by
    have : firstP.all (fun p => decide (2 ≤ p) && (List.range p).all (fun d => decide (d ≤ 1 ∨ p % d ≠ 0))) = true := by decide
    intro p hp
    have h := List.all_eq_true.1 this p hp
    simp only [Bool.and_eq_true, decide_eq_true_eq, List.all_eq_true, List.mem_range] at h
    exact h
  intro p hp
  obtain ⟨h2, h3⟩ := key p hp
  refine ⟨h2, fun d hd => ?_⟩
  have hl := Nat.le_of_dvd (by omega) hd
  rcases Nat.eq_or_lt_of_le hl with h5 | h5
  · exact .inr h5
  · rcases h3 d h5 with h6 | h6
    · have : d ≠ 0 := by
        rintro rfl
        have := Nat.eq_zero_of_zero_dvd hd
        omega
      omega
    · exact absurd (Nat.mod_eq_zero_of_dvd hd) h6
/-- Both tests agree. -/
theorem scan_isPN {n : Nat} (h2 : 2 ≤ n) : scanP n firstP = isPN n := by
  unfold isPN
  rw [decide_eq_true h2, Bool.true_and]
  by_cases hc : n ∈ firstP
  · rw [scanP_in (firstP_prime n hc) _ hc firstP_prime]
    simp [hc]
  · rw [scanP_notin n firstP (fun p hp e => hc (e ▸ hp))]
    simp [hc]
/-- A prime passes the test. -/
theorem prime_isPN {p : Nat} (h : IsP p) : isPN p = true := by
  rw [← scan_isPN h.1]
  by_cases hc : p ∈ firstP
  · exact scanP_in h _ hc firstP_prime
  · rw [scanP_notin p firstP (fun q hq e => hc (e ▸ hq)), List.all_eq_true]
    intro q hq
    rw [prime_strong h]
    simp only [Bool.and_true, decide_eq_true_eq]
    intro e
    have hd := Nat.dvd_of_mod_eq_zero e
    have := (firstP_prime q hq).1
    rcases h.2 q hd with h6 | h6
    · omega
    · exact hc (h6 ▸ hq)

/-- p is the least divisor of n that is greater than 1. -/
def Least (p n : Nat) : Prop := 2 ≤ p ∧ p ∣ n ∧ ∀ d, 2 ≤ d → d ∣ n → p ≤ d
/-- l is the list of the prime factors of n, in ascending order. -/
def IsFac : Nat → List Nat → Prop
  | n, [] => n = 1
  | n, p :: l => Least p n ∧ IsFac (n / p) l
theorem IsFac.unique : ∀ {l l' : List Nat} {n : Nat}, IsFac n l → IsFac n l' → l = l' := by
  intro l
  induction l with
  | nil =>
    intro l' n h h'
    cases l' with
    | nil => rfl
    | cons p t =>
      obtain ⟨⟨h2, hd, _⟩, _⟩ := h'
      rw [show n = 1 from h] at hd
      have := Nat.le_of_dvd (by decide) hd
      omega
  | cons p t ih =>
    intro l' n h h'
    cases l' with
    | nil =>
      obtain ⟨⟨h2, hd, _⟩, _⟩ := h
      rw [show n = 1 from h'] at hd
      have := Nat.le_of_dvd (by decide) hd
      omega
    | cons q u =>
      obtain ⟨⟨h2, hd, hl⟩, ht⟩ := h
      obtain ⟨⟨k2, kd, kl⟩, ku⟩ := h'
      obtain rfl : p = q := Nat.le_antisymm (hl q k2 kd) (kl p h2 hd)
      rw [ih ht ku]
/-- n has no divisor from 2 to d - 1. -/
def Rough (d n : Nat) : Prop := ∀ e, 2 ≤ e → e ∣ n → d ≤ e
theorem Rough.least {d n : Nat} (h : Rough d n) (h2 : 2 ≤ d) (hd : d ∣ n) : Least d n := ⟨h2, hd, h⟩
theorem Rough.quot {d n : Nat} (h : Rough d n) (hd : d ∣ n) : Rough d (n / d) := fun e h2 he => h e h2 (Nat.dvd_trans he ⟨d, (Nat.div_mul_cancel hd).symm⟩)
theorem Rough.next {d n : Nat} (h : Rough d n) (hd : n % d ≠ 0) : Rough (d + 1) n := by
  intro e h2 he
  rcases Nat.eq_or_lt_of_le (h e h2 he) with h5 | h5
  · subst h5
    exact absurd (Nat.mod_eq_zero_of_dvd he) hd
  · exact h5
theorem Rough.skip {d n : Nat} (h : Rough (d + 1) n) (h2 : 2 ≤ d) (ho : d % 2 = 1) : Rough (d + 2) n := by
  intro e k2 he
  rcases Nat.eq_or_lt_of_le (h e k2 he) with h5 | h5
  · exfalso
    have : (2 : Nat) ∣ n := Nat.dvd_trans (Nat.dvd_of_mod_eq_zero (by omega)) he
    have := h 2 (by decide) this
    omega
  · exact h5
theorem Rough.self {d n : Nat} (h : Rough d n) (hn : 1 < n) (hs : n < d * d) : Least n n := by
  refine ⟨hn, Nat.dvd_refl n, fun e h2 he => ?_⟩
  obtain ⟨q, hq⟩ := he
  have h1 := h e h2 ⟨q, hq⟩
  by_cases hq1 : q = 1
  · rw [hq1, Nat.mul_one] at hq
    omega
  · exfalso
    have hq2 : 2 ≤ q := by
      rcases q with _ | _ | q
      · rw [Nat.mul_zero] at hq; omega
      · exact absurd rfl hq1
      · omega
    have h3 := h q hq2 ⟨e, by rw [hq, Nat.mul_comm]⟩
    have := Nat.mul_le_mul h1 h3
    omega
theorem Rough.one {d : Nat} (h : d ≤ 2) (n : Nat) : Rough d n := fun _ h2 _ => Nat.le_trans h h2
/-- What is left when the factors in l were taken out of n. -/
def Took (n : Nat) (l : List Nat) (r : Nat) : Prop := ∀ t, IsFac r t → IsFac n (l ++ t)
theorem Took.nil (n : Nat) : Took n [] n := fun _ h => h
theorem Took.snoc {n r p : Nat} {l : List Nat} (h : Took n l r) (hp : Least p r) : Took n (l ++ [p]) (r / p) := by
  intro t ht
  rw [List.append_assoc]
  exact h _ ⟨hp, ht⟩
theorem Took.done {n : Nat} {l : List Nat} (h : Took n l 1) : IsFac n l := by
  have := h [] rfl
  rwa [List.append_nil] at this
theorem Took.last {n r : Nat} {l : List Nat} (h : Took n l r) (hr : Least r r) : IsFac n (l ++ [r]) := h [r] ⟨hr, by
  show r / r = 1
  exact Nat.div_self (by have := hr.1; omega)⟩
theorem Least.prime {p n : Nat} (h : Least p n) : IsP p := ⟨h.1, fun d hd => by
  have hp := h.1
  by_cases h1 : d = 1
  · exact .inl h1
  · right
    have h0 : d ≠ 0 := by
      rintro rfl
      have := Nat.eq_zero_of_zero_dvd hd
      omega
    exact Nat.le_antisymm (Nat.le_of_dvd (by omega) hd) (h.2.2 d (by omega) (Nat.dvd_trans hd h.2.1))⟩
end Go.Proofs.YtmiafkbjmkaebaaGreat

namespace Go.Proofs.YtmiafkbjmkaebaaGreat
open Go.RowKit Num

set_option maxHeartbeats 400000 in
theorem formed_any (s : ByteArray) (w : World) (hs : s.size ≤ 9223372036854775807) :
    Calls Tryz.prog 51 #[.string s] w (Same w (.bool (validB s))) := by
  have hd : s.toList = s.data.toList := ByteArray.toList_eq s
  by_cases h1 : 128 < s.size
  · have hv : validB s = false := by unfold validB; rw [Bool.and_eq_false_iff]; left; simp; omega
    have Hv := Lib.hid hv; clear hv hd
    go_enter Tryz.func51, Tryz.ntmps51
    go_wp2
    go_ret
    rw [Hv.out]; exact ⟨rfl, rfl⟩
  · by_cases h2 : s.size = 0
    · have he : s.data.toList = [] := List.length_eq_zero_iff.1 (by rw [size_toList]; exact h2)
      have hv : validB s = true := by unfold validB; rw [he]; simp; omega
      have h2' : (s.size : Int) = 0 := by omega
      have Hv := Lib.hid hv; clear hv hd he
      go_enter Tryz.func51, Tryz.ntmps51
      go_wp2
      go_ret
      rw [Hv.out]; exact ⟨rfl, rfl⟩
    · have hp : 0 < s.size := by omega
      have hh : s.data.toList.head? = some s[0] := by
        rw [List.head?_eq_getElem?, List.getElem?_eq_getElem (by rw [size_toList]; exact hp)]; rfl
      have hv : validB s = (s[0] != 0) := by
        unfold validB; rw [hh, decide_eq_true (by omega)]
        simp [bne]
      have hb : ((s[0].toNat : Int) != 0) = (s[0] != 0) := by
        rw [Bool.eq_iff_iff, bne_iff_ne, bne_iff_ne]
        constructor
        · intro h e; apply h; rw [e]; rfl
        · intro h e; apply h; exact UInt8.toNat_inj.1 (by show s[0].toNat = 0; omega)
      have Hv := Lib.hid hv; have Hb := Lib.hid hb; clear hv hd hh hb
      have h2' : ((s.size : Int) == 0) = false := beq_false_of_ne (by omega)
      go_enter Tryz.func51, Tryz.ntmps51
      go_wp2
      go_ret
      rw [Hv.out, ← Hb.out]; exact ⟨rfl, rfl⟩

set_option maxHeartbeats 400000 in
theorem u4_yes (n : Nat) (w : World) (hn : n < 18446744073709551616) :
    Calls Tryz.prog 52 #[.string (bs n)] w (Same w (.tuple #[.int .u64 n, .bool true])) := by
  have hs : (bs n).size ≤ 8 := bs_le.2 (by omega)
  have hd8 : decide (((bs n).size : Int) ≤ 8) = true := by simp; omega
  go_enter Tryz.func52, Tryz.ntmps52
  go_wp2
  go_loop [4, 5] (fun m i => ∃ k : Nat, k ≤ (bs n).size ∧ i = .int .i64 k ∧ m = .int .u64 (hi n k : Nat)) (fun _ i => (bs n).size - (intOf i).toNat)
  case atStart => exact ⟨0, by omega, rfl, by rw [hi_zero]; rfl⟩
  case round =>
    obtain ⟨k, hk, rfl, rfl⟩ := hrel
    by_cases hlt : k < (bs n).size
    · have h1 := hi_succ n k hlt
      have h2 := hi_le n (k + 1)
      go_wp2
      go_round
      case rel => exact ⟨k + 1, by omega, by go_num, val_int (by omega)⟩
      case measure => simp [intOf]; omega
    · have h3 : k = (bs n).size := by omega
      have h4 := hi_all n
      rw [← h3] at h4
      have H4 := Lib.hid h4; clear h4 h3
      go_wp2
      go_ret2
      exact ⟨by rw [H4.out]; rfl, rfl⟩

theorem addmod_ok (a b m : Nat) (w : World) (ha : a < m) (hb : b < m) (hm : m < 18446744073709551616) :
    Calls Tryz.prog 130 #[.int .u64 a, .int .u64 b, .int .u64 m] w (Same w (.int .u64 (((a + b) % m : Nat) : Int))) := by
  by_cases h : m - b ≤ a
  · obtain ⟨c, hc⟩ : ∃ c, c = m - b := ⟨_, rfl⟩
    obtain ⟨d, hd⟩ : ∃ d, d = a - c := ⟨_, rfl⟩
    have e1 : (m : Int) - (b : Int) = (c : Int) := by omega
    have e2 : (a : Int) - (c : Int) = (d : Int) := by omega
    have w1 : IntKind.u64.wrap (c : Int) = (c : Int) := by rw [IntKind.wrap_u64]; omega
    have w2 : IntKind.u64.wrap (d : Int) = (d : Int) := by rw [IntKind.wrap_u64]; omega
    have w3 : IntKind.u64.wrap ((a : Int) - (c : Int)) = (d : Int) := by rw [e2, w2]
    have h3 : c ≤ a := by omega
    rw [show (a + b) % m = d from by rw [Nat.mod_eq_sub_mod (by omega), Nat.mod_eq_of_lt (by omega)]; omega]
    clear hc hd ha hb hm h
    go_enter Tryz.func130, Tryz.ntmps130
    go_wp2
    go_ret
    exact ⟨rfl, rfl⟩
  · obtain ⟨c, hc⟩ : ∃ c, c = m - b := ⟨_, rfl⟩
    obtain ⟨d, hd⟩ : ∃ d, d = a + b := ⟨_, rfl⟩
    have e1 : (m : Int) - (b : Int) = (c : Int) := by omega
    have e2 : (a : Int) + (b : Int) = (d : Int) := by omega
    have w1 : IntKind.u64.wrap (c : Int) = (c : Int) := by rw [IntKind.wrap_u64]; omega
    have w2 : IntKind.u64.wrap (d : Int) = (d : Int) := by rw [IntKind.wrap_u64]; omega
    have h3 : ¬ (c ≤ a) := by omega
    have h4 : decide (c ≤ a) = false := by simp; omega
    rw [show (a + b) % m = d from by rw [Nat.mod_eq_of_lt (by omega), hd]]
    clear hc hd ha hb hm h
    go_enter Tryz.func130, Tryz.ntmps130
    go_wp2
    go_ret
    exact ⟨rfl, rfl⟩

theorem mm_even {o a b m : Nat} (h : b % 2 = 0) : (o + (a + a) % m * (b / 2)) % m = (o + a * b) % m := by
  have e : a * b = (a + a) * (b / 2) := by
    obtain ⟨k, rfl⟩ : ∃ k, b = 2 * k := ⟨b / 2, by omega⟩
    rw [Nat.mul_div_cancel_left k (by decide), Nat.add_mul, ← Nat.two_mul, ← Nat.mul_assoc, ← Nat.mul_assoc, Nat.mul_comm a 2]
  rw [e, Nat.add_mod, Nat.mod_mul_mod, ← Nat.add_mod]
theorem mm_odd {o a b m : Nat} (h : b % 2 = 1) : ((o + a) % m + (a + a) % m * (b / 2)) % m = (o + a * b) % m := by
  have e : o + a * b = o + a + (a + a) * (b / 2) := by
    obtain ⟨k, rfl⟩ : ∃ k, b = 2 * k + 1 := ⟨b / 2, by omega⟩
    rw [show (2 * k + 1) / 2 = k by omega, Nat.mul_add, Nat.mul_one, Nat.add_mul, ← Nat.two_mul, ← Nat.mul_assoc, Nat.mul_comm a 2, Nat.mul_assoc]
    omega
  rw [e, Nat.add_mod, Nat.mod_mod, Nat.mod_mul_mod, ← Nat.add_mod]

set_option maxHeartbeats 1000000 in
set_option maxRecDepth 100000 in
theorem mulmod_ok (a b m : Nat) (w : World) (ha : a < m) (hb : b < m) (hm : m < 18446744073709551616) :
    Calls Tryz.prog 109 #[.int .u64 a, .int .u64 b, .int .u64 m] w (Same w (.int .u64 ((a * b % m : Nat) : Int))) := by
  obtain ⟨V, hV⟩ : ∃ V, V = a * b % m := ⟨_, rfl⟩
  rw [← hV]
  by_cases h : m < 4294967296
  · obtain ⟨p, hp⟩ : ∃ p, p = a * b := ⟨_, rfl⟩
    have pl : p ≤ 4294967295 * 4294967295 := by rw [hp]; exact Nat.mul_le_mul (by omega) (by omega)
    have ep : (a : Int) * (b : Int) = (p : Int) := by rw [hp, Int.natCast_mul]
    have wp : IntKind.u64.wrap (p : Int) = (p : Int) := by rw [IntKind.wrap_u64]; omega
    have er : (p : Int) % (m : Int) = (V : Int) := by rw [hV, ← hp, Int.natCast_emod]
    have hd : decide ((m : Int) < 4294967296) = true := by simp; omega
    have m0 : (m : Int) ≠ 0 := by omega
    clear hV hp pl ha hb hm h
    go_enter Tryz.func109, Tryz.ntmps109
    go_wp2
    go_ret
    exact ⟨by show Ending.returned (.int .u64 ((p : Int) % (m : Int))) = _; rw [er], rfl⟩
  · have hd : decide ((m : Int) < 4294967296) = false := by simp; omega
    have HA := Lib.hid (fun (x y : Nat) (hx : x < m) (hy : y < m) (W : World) => addmod_ok x y m W hx hy hm)
    have HV := Lib.hid hV
    have HS := Lib.hid (And.intro ha (And.intro (And.intro hb (show b < 18446744073709551616 by omega)) (show 0 < m by omega)))
    clear hV ha hb hm h
    go_enter Tryz.func109, Tryz.ntmps109
    go_wp2
    clear hd
    go_loopw [0, 1, 7] (fun x0 x1 x4 wr => ∃ o x y : Nat, x0 = .int .u64 x ∧ x1 = .int .u64 y ∧ x4 = .int .u64 o ∧ Hid (o < m ∧ x < m ∧ (o + x * y) % m = V ∧ y < 18446744073709551616) ∧ wr = w) (fun _ x1 _ _ => (intOf x1).toNat)
    case atStart => exact ⟨0, a, b, rfl, rfl, rfl, Lib.hid ⟨HS.out.2.2, HS.out.1, by rw [Nat.zero_add, HV.out], HS.out.2.1.2⟩, rfl⟩
    case round =>
      obtain ⟨o, x, y, rfl, rfl, rfl, HI, rfl⟩ := hrel
      by_cases h0 : y = 0
      · obtain rfl : o = V := by
          obtain ⟨k1, _, k3, _⟩ := HI.out
          rw [h0, Nat.mul_zero, Nat.add_zero, Nat.mod_eq_of_lt k1] at k3
          exact k3
        subst h0
        go_wp2
        go_ret
        exact ⟨rfl, rfl⟩
      · have H2 := Lib.hid (HA.out x x HI.out.2.1 HI.out.2.1)
        obtain ⟨x2, hx2⟩ : ∃ z, z = (x + x) % m := ⟨_, rfl⟩
        have hx2l : x2 < m := by rw [hx2]; exact Nat.mod_lt _ HS.out.2.2
        rw [← hx2] at H2
        obtain ⟨y2, hy2⟩ : ∃ z, z = y / 2 := ⟨_, rfl⟩
        have ey2 : (y : Int) / 2 = (y2 : Int) := by omega
        have yl : y2 < y := by omega
        have wy2 : IntKind.u64.wrap (y2 : Int) = (y2 : Int) := by rw [IntKind.wrap_u64]; have := HI.out.2.2.2; omega
        rcases (show y % 2 = 0 ∨ y % 2 = 1 by omega) with hp | hp
        · have ep : (y : Int) % 2 = 0 := by omega
          have HI2 := Lib.hid (show o < m ∧ x2 < m ∧ (o + x2 * y2) % m = V ∧ y2 < 18446744073709551616 from ⟨HI.out.1, hx2l, by rw [hx2, hy2, mm_even hp]; exact HI.out.2.2.1, by have := HI.out.2.2.2; omega⟩)
          clear HI hx2 hx2l hy2 hp
          go_wp2_with (go_at_call 130; refine (H2.out _).mono ?_; rintro e w1 ⟨rfl, rfl⟩)
          go_roundw
          case rel => exact ⟨o, x2, y2, rfl, rfl, rfl, HI2, trivial⟩
          case measure => simp [intOf]; omega
        · have ep : (y : Int) % 2 = 1 := by omega
          have H1 := Lib.hid (HA.out o x HI.out.1 HI.out.2.1)
          obtain ⟨o2, ho2⟩ : ∃ z, z = (o + x) % m := ⟨_, rfl⟩
          rw [← ho2] at H1
          have HI2 := Lib.hid (show o2 < m ∧ x2 < m ∧ (o2 + x2 * y2) % m = V ∧ y2 < 18446744073709551616 from ⟨by rw [ho2]; exact Nat.mod_lt _ HS.out.2.2, hx2l, by rw [ho2, hx2, hy2, mm_odd hp]; exact HI.out.2.2.1, by have := HI.out.2.2.2; omega⟩)
          clear HI hx2 hx2l hy2 hp ho2
          go_wp2_with (first
            | (go_at_call 130; (with_reducible refine (H1.out _).mono ?_); rintro e w1 ⟨rfl, rfl⟩)
            | (go_at_call 130; (with_reducible refine (H2.out _).mono ?_); rintro e w1 ⟨rfl, rfl⟩))
          go_roundw
          case rel => exact ⟨o2, x2, y2, rfl, rfl, rfl, HI2, trivial⟩
          case measure => simp [intOf]; omega

theorem em_even {o a b m : Nat} (h : b % 2 = 0) : o * (a * a % m) ^ (b / 2) % m = o * a ^ b % m := by
  have e : a ^ b = (a * a) ^ (b / 2) := by
    rw [← Nat.pow_two, ← Nat.pow_mul]
    congr 1
    omega
  rw [e, Nat.mul_mod, ← Nat.pow_mod, ← Nat.mul_mod]
theorem em_odd {o a b m : Nat} (h : b % 2 = 1) : (o * a % m) * (a * a % m) ^ (b / 2) % m = o * a ^ b % m := by
  have e : o * a ^ b = o * a * (a * a) ^ (b / 2) := by
    rw [← Nat.pow_two, ← Nat.pow_mul, Nat.mul_assoc, ← Nat.pow_succ']
    congr 2
    omega
  rw [e, Nat.mod_mul_mod, Nat.mul_mod, ← Nat.pow_mod, ← Nat.mul_mod]

set_option maxHeartbeats 1000000 in
set_option maxRecDepth 100000 in
theorem expmod_ok (a b m : Nat) (w : World) (ha : a < m) (hb : b < 18446744073709551616) (hm : m < 18446744073709551616) :
    Calls Tryz.prog 108 #[.int .u64 a, .int .u64 b, .int .u64 m] w (Same w (.int .u64 ((a ^ b % m : Nat) : Int))) := by
  obtain ⟨V, hV⟩ : ∃ V, V = a ^ b % m := ⟨_, rfl⟩
  rw [← hV]
  have HA := Lib.hid (fun (x y : Nat) (hx : x < m) (hy : y < m) (W : World) => mulmod_ok x y m W hx hy hm)
  have HV := Lib.hid hV
  have HS := Lib.hid (And.intro ha (And.intro (show 0 < m by omega) hb))
  obtain ⟨o1, ho1⟩ : ∃ x, x = 1 % m := ⟨_, rfl⟩
  have eo1 : (1 : Int) % (m : Int) = (o1 : Int) := by rw [ho1, Int.natCast_emod]; rfl
  have HO := Lib.hid ho1
  have m0 : (m : Int) ≠ 0 := by omega
  clear hV ha hm ho1 hb
  go_enter Tryz.func108, Tryz.ntmps108
  go_wp2
  rw [eo1]
  clear eo1
  go_loopw [0, 1, 7] (fun x0 x1 x4 wr => ∃ o x y : Nat, x0 = .int .u64 x ∧ x1 = .int .u64 y ∧ x4 = .int .u64 o ∧ Hid (o < m ∧ x < m ∧ o * x ^ y % m = V ∧ y < 18446744073709551616) ∧ wr = w) (fun _ x1 _ _ => (intOf x1).toNat)
  case atStart => exact ⟨o1, a, b, rfl, rfl, rfl, Lib.hid ⟨by rw [HO.out]; exact Nat.mod_lt _ HS.out.2.1, HS.out.1, by rw [HO.out, Nat.mod_mul_mod, Nat.one_mul, HV.out], HS.out.2.2⟩, rfl⟩
  case round =>
    obtain ⟨o, x, y, rfl, rfl, rfl, HI, rfl⟩ := hrel
    by_cases h0 : y = 0
    · obtain rfl : o = V := by
        obtain ⟨k1, _, k3, _⟩ := HI.out
        rw [h0, Nat.pow_zero, Nat.mul_one, Nat.mod_eq_of_lt k1] at k3
        exact k3
      subst h0
      go_wp2
      go_ret
      exact ⟨rfl, rfl⟩
    · have H2 := Lib.hid (HA.out x x HI.out.2.1 HI.out.2.1)
      obtain ⟨x2, hx2⟩ : ∃ z, z = x * x % m := ⟨_, rfl⟩
      have hx2l : x2 < m := by rw [hx2]; exact Nat.mod_lt _ HS.out.2.1
      rw [← hx2] at H2
      obtain ⟨y2, hy2⟩ : ∃ z, z = y / 2 := ⟨_, rfl⟩
      have ey2 : (y : Int) / 2 = (y2 : Int) := by omega
      have yl : y2 < y := by omega
      have wy2 : IntKind.u64.wrap (y2 : Int) = (y2 : Int) := by rw [IntKind.wrap_u64]; have := HI.out.2.2.2; omega
      rcases (show y % 2 = 0 ∨ y % 2 = 1 by omega) with hp | hp
      · have ep : (y : Int) % 2 = 0 := by omega
        have HI2 := Lib.hid (show o < m ∧ x2 < m ∧ o * x2 ^ y2 % m = V ∧ y2 < 18446744073709551616 from ⟨HI.out.1, hx2l, by rw [hx2, hy2, em_even hp]; exact HI.out.2.2.1, by have := HI.out.2.2.2; omega⟩)
        clear HI hx2 hx2l hy2 hp
        go_wp2_with (go_at_call 109; refine (H2.out _).mono ?_; rintro e w1 ⟨rfl, rfl⟩)
        go_roundw
        case rel => exact ⟨o, x2, y2, rfl, rfl, rfl, HI2, trivial⟩
        case measure => simp [intOf]; omega
      · have ep : (y : Int) % 2 = 1 := by omega
        have H1 := Lib.hid (HA.out o x HI.out.1 HI.out.2.1)
        obtain ⟨o2, ho2⟩ : ∃ z, z = o * x % m := ⟨_, rfl⟩
        rw [← ho2] at H1
        have HI2 := Lib.hid (show o2 < m ∧ x2 < m ∧ o2 * x2 ^ y2 % m = V ∧ y2 < 18446744073709551616 from ⟨by rw [ho2]; exact Nat.mod_lt _ HS.out.2.1, hx2l, by rw [ho2, hx2, hy2, em_odd hp]; exact HI.out.2.2.1, by have := HI.out.2.2.2; omega⟩)
        clear HI hx2 hx2l hy2 hp ho2
        go_wp2_with (first
          | (go_at_call 109; (with_reducible refine (H1.out _).mono ?_); rintro e w1 ⟨rfl, rfl⟩)
          | (go_at_call 109; (with_reducible refine (H2.out _).mono ?_); rintro e w1 ⟨rfl, rfl⟩))
        go_roundw
        case rel => exact ⟨o2, x2, y2, rfl, rfl, rfl, HI2, trivial⟩
        case measure => simp [intOf]; omega
end Go.Proofs.YtmiafkbjmkaebaaGreat

namespace Go.Proofs.YtmiafkbjmkaebaaGreat
open Go.RowKit Num

set_option maxHeartbeats 400000 in
theorem psmall_yes (n : Nat) (w : World) (hn : n < 18446744073709551616) :
    Calls Tryz.prog 47 #[.string (bs n)] w (Same w (.tuple #[.int .u64 n, .int .i64 0])) := by
  have hT : n < Top := by unfold Top; exact Nat.lt_trans hn (by decide)
  have HV := Lib.hid (fun W => valid_yes hT W)
  have HS := Lib.hid (fun W => small_yes n W hn)
  clear hn hT
  go_enter Tryz.func47, Tryz.ntmps47
  go_wp2_with (first | (go_at_call 31; refine (HV.out _).mono ?_; rintro e w' ⟨rfl, rfl⟩) | (go_at_call 69; refine (HS.out _).mono ?_; rintro e w' ⟨rfl, rfl⟩))
  go_ret2
  exact ⟨rfl, rfl⟩
set_option maxHeartbeats 400000 in
theorem psmall_form (s : ByteArray) (w : World) (hs : s.size ≤ 9223372036854775807) (h : validB s = false) :
    Calls Tryz.prog 47 #[.string s] w (Same w (.tuple #[.int .u64 0, .int .i64 3])) := by
  have HV := Lib.hid (fun W => valid_no h W hs)
  clear hs h
  go_enter Tryz.func47, Tryz.ntmps47
  go_wp2_with (go_at_call 31; refine (HV.out _).mono ?_; rintro e w' ⟨rfl, rfl⟩)
  go_ret2
  exact ⟨rfl, rfl⟩
set_option maxHeartbeats 400000 in
theorem psmall_long (s : ByteArray) (w : World) (hs : s.size ≤ 9223372036854775807) (h : validB s = true) (h8 : 8 < s.size) :
    Calls Tryz.prog 47 #[.string s] w (Same w (.tuple #[.int .u64 0, .int .i64 5])) := by
  have HV := Lib.hid (fun W => valid_any s W hs)
  rw [h] at HV
  have HS := Lib.hid (fun W => small_no s W hs (.inr h8))
  clear hs h h8
  go_enter Tryz.func47, Tryz.ntmps47
  go_wp2_with (first | (go_at_call 31; refine (HV.out _).mono ?_; rintro e w' ⟨rfl, rfl⟩) | (go_at_call 69; refine (HS.out _).mono ?_; rintro e w' ⟨rfl, rfl⟩))
  go_ret2
  exact ⟨rfl, rfl⟩

theorem nb_le1024 {a : Nat} (ha : a < Top) : nb a ≤ 1024 := by
  rcases Nat.eq_zero_or_pos a with h | h
  · rw [h, nb_zero]; omega
  · have h1 := nb_bytes (n := a) (by omega) (bs_pos (by omega))
    have h2 : (bs a).size ≤ 128 := by rw [bs_le]; exact ha
    have h3 : Lib.bitLen ((bs a)[0]'(bs_pos (by omega))).toNat ≤ 8 := Lib.bitLen_le _ 8 (by omega) (byte_lt _)
    omega

set_option maxHeartbeats 1000000 in
set_option maxRecDepth 100000 in
theorem ptwos_ok (a s d : Nat) (w : World) (ha : a < Top) (he : a = 2 ^ s * d) (hd : d % 2 = 1) :
    Calls Tryz.prog 124 #[.string (bs a)] w (Same w (.int .i64 (s : Int))) := by
  have hsn : s < nb a := bit_nb (he ▸ bit_at hd)
  have HB := Lib.hid (fun i (h : i < nb a) W => bit_yes ha i h W)
  have H0 := Lib.hid (fun i (h : i < s) => (he ▸ bit_low h : bitB a i = false))
  have H1 := Lib.hid (he ▸ bit_at hd : bitB a s = true)
  have hnb := nb_le1024 ha
  have hs : s < 1024 := by omega
  have HN := Lib.hid hsn
  clear hsn hnb he ha hd
  go_enter Tryz.func124, Tryz.ntmps124
  go_wp2
  go_loopw [3] (fun x wr => ∃ i : Nat, i ≤ s ∧ x = .int .i64 i ∧ wr = w) (fun x _ => s - (intOf x).toNat)
  case atStart => exact ⟨0, Nat.zero_le _, rfl, rfl⟩
  case round =>
    obtain ⟨i, hi, rfl, rfl⟩ := hrel
    by_cases hlt : i < s
    · have HBi : Hid (∀ W, Calls Tryz.prog 113 #[.string (bs a), .int .i64 i] W (Same W (.bool false))) := Lib.hid (fun W => by have := HB.out i (by have := HN.out; omega) W; rw [H0.out i hlt] at this; exact this)
      go_wp2_with fail
      refine (HBi.out _).mono ?_
      rintro e w1 ⟨rfl, rfl⟩
      go_wp2
      go_roundw
      case rel => exact ⟨i + 1, by omega, by go_num, trivial⟩
      case measure => simp [intOf]; omega
    · obtain rfl : i = s := by omega
      have HBi : Hid (∀ W, Calls Tryz.prog 113 #[.string (bs a), .int .i64 i] W (Same W (.bool true))) := Lib.hid (fun W => by have := HB.out i HN.out W; rw [H1.out] at this; exact this)
      go_wp2_with fail
      refine (HBi.out _).mono ?_
      rintro e w1 ⟨rfl, rfl⟩
      go_wp2
      go_ret
      exact ⟨rfl, rfl⟩

set_option maxHeartbeats 1000000 in
set_option maxRecDepth 100000 in
theorem ppower_ok (s : Nat) (w : World) (hs : s < 1024) :
    Calls Tryz.prog 125 #[.int .i64 (s : Int)] w (Made w (.string (bs (2 ^ s)))) := by
  obtain ⟨i0, hi0, hz0, hz1, hz2⟩ := info_parts info_u8
  have hsh : 2 ^ (s % 8) < 256 := Nat.lt_of_lt_of_le (Nat.pow_lt_pow_right (by decide) (Nat.mod_lt s (by decide))) (by decide)
  have hx : ((UInt8.ofNat (2 ^ (s % 8))).toNat : Int) = 2 ^ (s % 8) % 256 := by
    rw [UInt8.toNat_ofNat']; norm_cast
  have HX := Lib.hid hx
  clear hx hsh
  go_enter Tryz.func125, Tryz.ntmps125
  go_wp2_with (first
        | (at_make; go_loud (refine wpList_make_full _ rfl _ _ 88 rfl w.heap.size 5 i0 (.int .u8 0) 1 Tryz.underlying88 hi0 hz0 hz1 _ _ _ _ (s / 8 + 1) rfl rfl (by omega) (by omega) (by rw [hz2]; omega) (by unfold maxLen; omega) (Nat.le_refl _) ?_)
           intro w0 hown0 hgrow0
           have hb0 : Below w.heap.size w w0 := (Below.refl _ _).grown hgrow0 (Nat.le_refl _) (fun g hg => by cases hg)
           rw [madeB] at hown0
           have hd0 := Bt.of_own hown0
           have c0 := hd0.cell 0 (by rw [List.length_replicate]; omega)
           have f0 := hd0.frozen 0
           have l0 := hd0.lt
           have hcv := (hd0.set 0 (UInt8.ofNat (2 ^ (s % 8)))).string (P := Tryz.prog) (src := 88) (dst := 22) 0 (s / 8 + 1) (s / 8 + 1) (by simp) Tryz.underlying88 Tryz.underlying5 Tryz.underlying22
           rw [pow2_bs, HX.out] at hcv
           clear hown0 hgrow0 hd0))
  go_ret
  exact ⟨rfl, hb0.setCell (p := ⟨w.heap.size, 0, none⟩) (Nat.le_refl _) _⟩

theorem top_le {a b : Nat} (h : a ≤ b) (hb : b < Top) : a < Top := Nat.lt_of_le_of_lt h hb

set_option maxHeartbeats 2000000 in
set_option maxRecDepth 100000 in
theorem pstrong_ok (n a : Nat) (w : World) (hn : n < Top) (ha : a < Top) :
    Calls Tryz.prog 101 #[.string (bs n), .string (bs a)] w (Made w (.tuple #[.bool (strongN n a), .int .i64 0])) := by
  have HVn := Lib.hid (fun W => valid_yes hn W)
  have HVa := Lib.hid (fun W => valid_yes ha W)
  have HO1 : Hid (∀ W, Calls Tryz.prog 34 #[.int .u64 1] W (Made W (.string (bs 1)))) := Lib.hid (fun W => of_lit 1 (by decide) (by decide) W)
  have HO2 : Hid (∀ W, Calls Tryz.prog 34 #[.int .u64 2] W (Made W (.string (bs 2)))) := Lib.hid (fun W => of_lit 2 (by decide) (by decide) W)
  obtain ⟨V, hV⟩ : ∃ V, V = strongN n a := ⟨_, rfl⟩
  rw [← hV]
  have HVV := Lib.hid hV
  have HB : Hid (∀ W, Calls Tryz.prog 113 #[.string (bs n), .int .i64 0] W (Same W (.bool (decide (n % 2 = 1))))) := Lib.hid (fun W => by
    have := bit_all hn 0 W
    rw [show bitB n 0 = decide (n % 2 = 1) from by unfold bitB; rw [Nat.pow_zero, Nat.div_one]; rcases Nat.mod_two_eq_zero_or_one n with h | h <;> rw [h] <;> rfl] at this
    exact this)
  by_cases h1 : n % 2 = 0 ∨ n = 1
  · have hb2 : ((bs n).toList == (bs 2).toList) = V := by
      rw [bs_beq, hV]
      unfold strongN
      rw [if_pos h1]
      rfl
    clear hV
    rcases h1 with h1 | rfl
    · rw [show decide (n % 2 = 1) = false from by simp; omega] at HB
      clear hn ha h1
      have HV := Below.refl w.heap.size w
      have tok0 : True := trivial
      go_enter Tryz.func101, Tryz.ntmps101
      go_wp2_with (first
        | (go_at_call 31; (first | (with_reducible refine (HVn.out _).mono ?_) | (with_reducible refine (HVa.out _).mono ?_)); rintro e w' ⟨rfl, rfl⟩)
        | (go_at_call 34; clear tok0; refine (HO1.out _).mono ?_; rintro e w' ⟨rfl, hb⟩; replace HV := HV.trans (hb.mono HV.size); clear hb)
        | (go_at_call 34; refine (HO2.out _).mono ?_; rintro e w' ⟨rfl, hb⟩; replace HV := HV.trans (hb.mono HV.size); clear hb)
        | (go_at_call 113; refine (HB.out _).mono ?_; rintro e w' ⟨rfl, rfl⟩))
      go_ret2
      exact ⟨rfl, HV⟩
    · have hb1 : ((bs 1).toList == (bs 1).toList) = true := by rw [bs_beq]; rfl
      rw [show decide (1 % 2 = 1) = true from rfl] at HB
      clear hn ha
      have HV := Below.refl w.heap.size w
      have tok0 : True := trivial
      go_enter Tryz.func101, Tryz.ntmps101
      go_wp2_with (first
        | (go_at_call 31; (first | (with_reducible refine (HVn.out _).mono ?_) | (with_reducible refine (HVa.out _).mono ?_)); rintro e w' ⟨rfl, rfl⟩)
        | (go_at_call 34; clear tok0; refine (HO1.out _).mono ?_; rintro e w' ⟨rfl, hb⟩; replace HV := HV.trans (hb.mono HV.size); clear hb)
        | (go_at_call 34; refine (HO2.out _).mono ?_; rintro e w' ⟨rfl, hb⟩; replace HV := HV.trans (hb.mono HV.size); clear hb)
        | (go_at_call 113; refine (HB.out _).mono ?_; rintro e w' ⟨rfl, rfl⟩))
      go_ret2
      exact ⟨rfl, HV⟩
  · have hodd : n % 2 = 1 := by omega
    rw [show decide (n % 2 = 1) = true from by simp; omega] at HB
    have hb1 : ((bs n).toList == (bs 1).toList) = false := by rw [bs_beq]; exact beq_false_of_ne (by omega)
    have n3 : 3 ≤ n := by omega
    have HD := Lib.hid (fun W => divmod_ok ha hn (by omega) W)
    by_cases h0 : a % n = 0
    · obtain rfl : V = true := by
        rw [hV]
        unfold strongN
        rw [if_neg h1, if_pos h0]
      rw [h0] at HD
      have hz : (bs 0).toList.isEmpty = true := by rw [bs_isEmpty]; rfl
      clear hV hn ha h1 h0 hodd
      have HV := Below.refl w.heap.size w
      have tok0 : True := trivial
      go_enter Tryz.func101, Tryz.ntmps101
      go_wp2_with (first
        | (go_at_call 31; (first | (with_reducible refine (HVn.out _).mono ?_) | (with_reducible refine (HVa.out _).mono ?_)); rintro e w' ⟨rfl, rfl⟩)
        | (go_at_call 34; clear tok0; refine (HO1.out _).mono ?_; rintro e w' ⟨rfl, hb⟩; replace HV := HV.trans (hb.mono HV.size); clear hb)
        | (go_at_call 34; refine (HO2.out _).mono ?_; rintro e w' ⟨rfl, hb⟩; replace HV := HV.trans (hb.mono HV.size); clear hb)
        | (go_at_call 113; refine (HB.out _).mono ?_; rintro e w' ⟨rfl, rfl⟩)
        | (go_at_call 50; refine (HD.out _).mono ?_; rintro e w' ⟨rfl, hb⟩; replace HV := HV.trans (hb.mono HV.size); clear hb))
      go_ret2
      exact ⟨rfl, HV⟩
    · have hz : (bs (a % n)).toList.isEmpty = false := by rw [bs_isEmpty]; exact beq_false_of_ne h0
      obtain ⟨e1, e2⟩ := tzP_spec (n - 1) (by omega)
      have HS := Lib.hid (fun W => sub_ok (a := n) (b := 1) hn (by unfold Top; decide) (by omega) W)
      have hlT : n - 1 < Top := top_le (Nat.sub_le n 1) hn
      have HT := Lib.hid (fun W => ptwos_ok (n - 1) (tzP (n - 1)) ((n - 1) / 2 ^ tzP (n - 1)) W hlT e1 e2)
      have hs1 : tzP (n - 1) < 1024 := by
        have hb : bitB (n - 1) (tzP (n - 1)) = true := by
          have := bit_at (s := tzP (n - 1)) e2
          rwa [← e1] at this
        have := bit_nb hb
        have := nb_le1024 hlT
        omega
      have HP := Lib.hid (fun W => ppower_ok (tzP (n - 1)) W hs1)
      have hdpos : 0 < (n - 1) / 2 ^ tzP (n - 1) := Nat.pos_of_ne_zero (fun h => by rw [h] at e2; cases e2)
      have h2T : 2 ^ tzP (n - 1) < Top := top_le (by
        have := Nat.le_mul_of_pos_right (2 ^ tzP (n - 1)) (hdpos)
        rw [← e1] at this
        exact this) hlT
      have HD2 := Lib.hid (fun W => divmod_ok hlT h2T (Nat.pos_iff_ne_zero.1 (Nat.pow_pos (by decide))) W)
      have hdT : (n - 1) / 2 ^ tzP (n - 1) < Top := top_le (Nat.div_le_self _ _) hlT
      have HE := Lib.hid (fun W => mexp_ok a ((n - 1) / 2 ^ tzP (n - 1)) n W ha hdT (by omega) hn)
      have hV2 : V = if a ^ ((n - 1) / 2 ^ tzP (n - 1)) % n = 1 then true else strongL n (tzP (n - 1)) (a ^ ((n - 1) / 2 ^ tzP (n - 1)) % n) := by
        rw [hV]
        unfold strongN
        rw [if_neg h1, if_neg h0]
      have hxl : a ^ ((n - 1) / 2 ^ tzP (n - 1)) % n < n := Nat.mod_lt _ (by omega)
      have HMul := Lib.hid (fun (x : Nat) (hx : x < Top) (W : World) => mmul_ok x x n W hx hx (by omega) hn)
      generalize (n - 1) % 2 ^ tzP (n - 1) = r2 at *
      generalize a ^ ((n - 1) / 2 ^ tzP (n - 1)) % n = x at *
      generalize (n - 1) / 2 ^ tzP (n - 1) = d at *
      generalize tzP (n - 1) = s at *
      have e9 : n - 1 = 2 ^ s * d := e1
      generalize hl : n - 1 = l at *
      clear hV h1 h0 hodd e1 e2 hlT h2T hdT hdpos e9 ha
      by_cases hx1 : x = 1
      · obtain rfl : V = true := by rw [hV2, if_pos hx1]
        have hbx : ((bs x).toList == (bs 1).toList) = true := by rw [bs_beq, hx1]; rfl
        clear hV2 hx1 hxl
        have HV := Below.refl w.heap.size w
        have tok0 : True := trivial
        have tok1 : True := trivial
        go_enter Tryz.func101, Tryz.ntmps101
        go_wp2_with (first
          | (go_at_call 31; (first | (with_reducible refine (HVn.out _).mono ?_) | (with_reducible refine (HVa.out _).mono ?_)); rintro e w' ⟨rfl, rfl⟩)
          | (go_at_call 34; clear tok0; refine (HO1.out _).mono ?_; rintro e w' ⟨rfl, hb⟩; replace HV := HV.trans (hb.mono HV.size); clear hb)
          | (go_at_call 34; refine (HO2.out _).mono ?_; rintro e w' ⟨rfl, hb⟩; replace HV := HV.trans (hb.mono HV.size); clear hb)
          | (go_at_call 113; refine (HB.out _).mono ?_; rintro e w' ⟨rfl, rfl⟩)
          | (go_at_call 49; refine (HS.out _).mono ?_; rintro e w' ⟨rfl, hb⟩; replace HV := HV.trans (hb.mono HV.size); clear hb)
          | (go_at_call 124; refine (HT.out _).mono ?_; rintro e w' ⟨rfl, rfl⟩)
          | (go_at_call 125; refine (HP.out _).mono ?_; rintro e w' ⟨rfl, hb⟩; replace HV := HV.trans (hb.mono HV.size); clear hb)
          | (go_at_call 50; clear tok1; refine (HD.out _).mono ?_; rintro e w' ⟨rfl, hb⟩; replace HV := HV.trans (hb.mono HV.size); clear hb)
          | (go_at_call 50; refine (HD2.out _).mono ?_; rintro e w' ⟨rfl, hb⟩; replace HV := HV.trans (hb.mono HV.size); clear hb)
          | (go_at_call 33; refine (HE.out _).mono ?_; rintro e w' ⟨rfl, hb⟩; replace HV := HV.trans (hb.mono HV.size); clear hb))
        go_ret2
        exact ⟨rfl, HV⟩
      · have hbx : ((bs x).toList == (bs 1).toList) = false := by rw [bs_beq]; exact beq_false_of_ne hx1
        rw [if_neg hx1] at hV2
        have HX := Lib.hid (And.intro hxl (And.intro hn hV2))
        clear hV2 hx1 hxl
        have HV := Below.refl w.heap.size w
        have tok0 : True := trivial
        have tok1 : True := trivial
        go_enter Tryz.func101, Tryz.ntmps101
        go_wp2_with (first
          | (go_at_call 31; (first | (with_reducible refine (HVn.out _).mono ?_) | (with_reducible refine (HVa.out _).mono ?_)); rintro e w' ⟨rfl, rfl⟩)
          | (go_at_call 34; clear tok0; refine (HO1.out _).mono ?_; rintro e w' ⟨rfl, hb⟩; replace HV := HV.trans (hb.mono HV.size); clear hb)
          | (go_at_call 34; refine (HO2.out _).mono ?_; rintro e w' ⟨rfl, hb⟩; replace HV := HV.trans (hb.mono HV.size); clear hb)
          | (go_at_call 113; refine (HB.out _).mono ?_; rintro e w' ⟨rfl, rfl⟩)
          | (go_at_call 49; refine (HS.out _).mono ?_; rintro e w' ⟨rfl, hb⟩; replace HV := HV.trans (hb.mono HV.size); clear hb)
          | (go_at_call 124; refine (HT.out _).mono ?_; rintro e w' ⟨rfl, rfl⟩)
          | (go_at_call 125; refine (HP.out _).mono ?_; rintro e w' ⟨rfl, hb⟩; replace HV := HV.trans (hb.mono HV.size); clear hb)
          | (go_at_call 50; clear tok1; refine (HD.out _).mono ?_; rintro e w' ⟨rfl, hb⟩; replace HV := HV.trans (hb.mono HV.size); clear hb)
          | (go_at_call 50; refine (HD2.out _).mono ?_; rintro e w' ⟨rfl, hb⟩; replace HV := HV.trans (hb.mono HV.size); clear hb)
          | (go_at_call 33; refine (HE.out _).mono ?_; rintro e w' ⟨rfl, hb⟩; replace HV := HV.trans (hb.mono HV.size); clear hb))
        go_loopw [17, 76] (fun x17 x76 wr => ∃ (y i : Nat), x17 = .string (bs y) ∧ x76 = .int .i64 i ∧ i ≤ s ∧ Hid (y < n ∧ n < Top ∧ V = strongL n (s - i) y) ∧ Below w.heap.size w wr) (fun _ x76 _ => s - (intOf x76).toNat)
        case atStart => exact ⟨x, 0, rfl, rfl, Nat.zero_le _, HX, HV⟩
        case round =>
          obtain ⟨y, i, rfl, rfl, hi, HY, HV⟩ := hrel
          by_cases hlt : i < s
          · have hV3 := HY.out.2.2
            rw [show s - i = (s - (i + 1)) + 1 from by omega, strongL, hl] at hV3
            by_cases hyl : y = l
            · rw [if_pos hyl] at hV3
              subst hV3
              subst hyl
              go_wp2
              go_ret2
              exact ⟨rfl, HV⟩
            · rw [if_neg hyl] at hV3
              have hby : ((bs y).toList == (bs l).toList) = false := by rw [bs_beq]; exact beq_false_of_ne hyl
              have HMy := Lib.hid (HMul.out y (Nat.lt_trans HY.out.1 HY.out.2.1))
              have HY2 := Lib.hid (show y * y % n < n ∧ n < Top ∧ V = strongL n (s - (i + 1)) (y * y % n) from ⟨Nat.mod_lt _ (by omega), HY.out.2.1, hV3⟩)
              clear hyl hV3
              go_wp2_with (go_at_call 39; refine (HMy.out _).mono ?_; rintro e w' ⟨rfl, hb⟩; replace HV := HV.trans (hb.mono HV.size); clear hb)
              go_roundw
              case rel => exact ⟨y * y % n, i + 1, rfl, by go_num, by omega, HY2, HV⟩
              case measure => simp [intOf]; omega
          · obtain rfl : V = false := by
              rw [HY.out.2.2, show s - i = 0 from by omega]
              rfl
            go_wp2
            go_ret2
            exact ⟨rfl, HV⟩
end Go.Proofs.YtmiafkbjmkaebaaGreat

namespace Go.Proofs.YtmiafkbjmkaebaaGreat
open Go.RowKit Num

end Go.Proofs.YtmiafkbjmkaebaaGreat

namespace Go.Proofs.YtmiafkbjmkaebaaGreat
open Go.RowKit Num

set_option maxHeartbeats 400000 in
set_option maxRecDepth 100000 in
theorem isstrong_ok (n a : Nat) (w : World) (hn : n < 18446744073709551616) (ha : a < 18446744073709551616) :
    Calls Tryz.prog 71 #[.int .u64 (n : Int), .int .u64 (a : Int)] w (Made w (.bool (strongN n a))) := by
  have HN := Lib.hid (fun W => of_any n hn W)
  have HA := Lib.hid (fun W => of_any a ha W)
  have HS := Lib.hid (fun W => pstrong_ok n a W (top_le (Nat.le_of_lt hn) (by unfold Top; decide)) (top_le (Nat.le_of_lt ha) (by unfold Top; decide)))
  clear hn ha
  go_enter Tryz.func71, Tryz.ntmps71
  go_wp2_with fail
  refine (HN.out _).mono ?_
  rintro e w1 ⟨rfl, HV⟩
  go_wp2_with fail
  refine (HA.out _).mono ?_
  rintro e w2 ⟨rfl, hb⟩
  replace HV := HV.trans (hb.mono HV.size)
  clear hb
  go_wp2_with fail
  refine (HS.out _).mono ?_
  rintro e w3 ⟨rfl, hb⟩
  replace HV := HV.trans (hb.mono HV.size)
  clear hb
  go_wp2
  go_ret
  exact ⟨rfl, HV⟩

set_option maxHeartbeats 400000 in
set_option maxRecDepth 100000 in
theorem firstprimes_ok (w : World) : Calls Tryz.prog 70 #[] w (Made w (.agg #[.int .u64 2, .int .u64 3, .int .u64 5, .int .u64 7, .int .u64 11, .int .u64 13, .int .u64 17, .int .u64 19, .int .u64 23, .int .u64 29, .int .u64 31, .int .u64 37])) := by
  go_enter Tryz.func70, Tryz.ntmps70
  go_wp2
  exact bodyPost_ret (v := .agg #[.int .u64 2, .int .u64 3, .int .u64 5, .int .u64 7, .int .u64 11, .int .u64 13, .int .u64 17, .int .u64 19, .int .u64 23, .int .u64 29, .int .u64 31, .int .u64 37]) (results_cell_row Tryz.results70 _ _ w.heap.size 94 _ (0, 0) _ rfl (heap_alloc_new _ _) Tryz.underlying94 rfl (by kernel_rfl)) rfl ⟨rfl, (Below.refl _ _).alloc (Nat.le_refl _) _⟩

theorem idx_p0 (W : World) : (Instr.index 94 (.agg #[.int .u64 2, .int .u64 3, .int .u64 5, .int .u64 7, .int .u64 11, .int .u64 13, .int .u64 17, .int .u64 19, .int .u64 23, .int .u64 29, .int .u64 31, .int .u64 37]) (.int .i64 0)).run Tryz.prog W = .ok (.int .u64 2) W := by
  simp [Instr.index, run_underlying Tryz.underlying94, asIntOf, go_sem]
theorem idx_p1 (W : World) : (Instr.index 94 (.agg #[.int .u64 2, .int .u64 3, .int .u64 5, .int .u64 7, .int .u64 11, .int .u64 13, .int .u64 17, .int .u64 19, .int .u64 23, .int .u64 29, .int .u64 31, .int .u64 37]) (.int .i64 1)).run Tryz.prog W = .ok (.int .u64 3) W := by
  simp [Instr.index, run_underlying Tryz.underlying94, asIntOf, go_sem]
theorem idx_p2 (W : World) : (Instr.index 94 (.agg #[.int .u64 2, .int .u64 3, .int .u64 5, .int .u64 7, .int .u64 11, .int .u64 13, .int .u64 17, .int .u64 19, .int .u64 23, .int .u64 29, .int .u64 31, .int .u64 37]) (.int .i64 2)).run Tryz.prog W = .ok (.int .u64 5) W := by
  simp [Instr.index, run_underlying Tryz.underlying94, asIntOf, go_sem]
theorem idx_p3 (W : World) : (Instr.index 94 (.agg #[.int .u64 2, .int .u64 3, .int .u64 5, .int .u64 7, .int .u64 11, .int .u64 13, .int .u64 17, .int .u64 19, .int .u64 23, .int .u64 29, .int .u64 31, .int .u64 37]) (.int .i64 3)).run Tryz.prog W = .ok (.int .u64 7) W := by
  simp [Instr.index, run_underlying Tryz.underlying94, asIntOf, go_sem]
theorem idx_p4 (W : World) : (Instr.index 94 (.agg #[.int .u64 2, .int .u64 3, .int .u64 5, .int .u64 7, .int .u64 11, .int .u64 13, .int .u64 17, .int .u64 19, .int .u64 23, .int .u64 29, .int .u64 31, .int .u64 37]) (.int .i64 4)).run Tryz.prog W = .ok (.int .u64 11) W := by
  simp [Instr.index, run_underlying Tryz.underlying94, asIntOf, go_sem]
theorem idx_p5 (W : World) : (Instr.index 94 (.agg #[.int .u64 2, .int .u64 3, .int .u64 5, .int .u64 7, .int .u64 11, .int .u64 13, .int .u64 17, .int .u64 19, .int .u64 23, .int .u64 29, .int .u64 31, .int .u64 37]) (.int .i64 5)).run Tryz.prog W = .ok (.int .u64 13) W := by
  simp [Instr.index, run_underlying Tryz.underlying94, asIntOf, go_sem]
theorem idx_p6 (W : World) : (Instr.index 94 (.agg #[.int .u64 2, .int .u64 3, .int .u64 5, .int .u64 7, .int .u64 11, .int .u64 13, .int .u64 17, .int .u64 19, .int .u64 23, .int .u64 29, .int .u64 31, .int .u64 37]) (.int .i64 6)).run Tryz.prog W = .ok (.int .u64 17) W := by
  simp [Instr.index, run_underlying Tryz.underlying94, asIntOf, go_sem]
theorem idx_p7 (W : World) : (Instr.index 94 (.agg #[.int .u64 2, .int .u64 3, .int .u64 5, .int .u64 7, .int .u64 11, .int .u64 13, .int .u64 17, .int .u64 19, .int .u64 23, .int .u64 29, .int .u64 31, .int .u64 37]) (.int .i64 7)).run Tryz.prog W = .ok (.int .u64 19) W := by
  simp [Instr.index, run_underlying Tryz.underlying94, asIntOf, go_sem]
theorem idx_p8 (W : World) : (Instr.index 94 (.agg #[.int .u64 2, .int .u64 3, .int .u64 5, .int .u64 7, .int .u64 11, .int .u64 13, .int .u64 17, .int .u64 19, .int .u64 23, .int .u64 29, .int .u64 31, .int .u64 37]) (.int .i64 8)).run Tryz.prog W = .ok (.int .u64 23) W := by
  simp [Instr.index, run_underlying Tryz.underlying94, asIntOf, go_sem]
theorem idx_p9 (W : World) : (Instr.index 94 (.agg #[.int .u64 2, .int .u64 3, .int .u64 5, .int .u64 7, .int .u64 11, .int .u64 13, .int .u64 17, .int .u64 19, .int .u64 23, .int .u64 29, .int .u64 31, .int .u64 37]) (.int .i64 9)).run Tryz.prog W = .ok (.int .u64 29) W := by
  simp [Instr.index, run_underlying Tryz.underlying94, asIntOf, go_sem]
theorem idx_p10 (W : World) : (Instr.index 94 (.agg #[.int .u64 2, .int .u64 3, .int .u64 5, .int .u64 7, .int .u64 11, .int .u64 13, .int .u64 17, .int .u64 19, .int .u64 23, .int .u64 29, .int .u64 31, .int .u64 37]) (.int .i64 10)).run Tryz.prog W = .ok (.int .u64 31) W := by
  simp [Instr.index, run_underlying Tryz.underlying94, asIntOf, go_sem]
theorem idx_p11 (W : World) : (Instr.index 94 (.agg #[.int .u64 2, .int .u64 3, .int .u64 5, .int .u64 7, .int .u64 11, .int .u64 13, .int .u64 17, .int .u64 19, .int .u64 23, .int .u64 29, .int .u64 31, .int .u64 37]) (.int .i64 11)).run Tryz.prog W = .ok (.int .u64 37) W := by
  simp [Instr.index, run_underlying Tryz.underlying94, asIntOf, go_sem]

set_option maxHeartbeats 8000000 in
set_option maxRecDepth 100000 in
theorem isprime_ok (n : Nat) (w : World) (hn : n < 18446744073709551616) :
    Calls Tryz.prog 48 #[.int .u64 (n : Int)] w (Made w (.bool (isPN n))) := by
  have HF := Lib.hid firstprimes_ok
  have HSt := Lib.hid (fun (a : Nat) (ha : a < 100) W => isstrong_ok n a W hn (by omega))
  obtain ⟨V, hV⟩ : ∃ V, V = isPN n := ⟨_, rfl⟩
  rw [← hV]
  obtain ⟨r0, hr0⟩ : ∃ r, r = decide (2 ≤ n) := ⟨_, rfl⟩
  have er0 : decide ((2 : Int) ≤ (n : Int)) = r0 := by rw [hr0]; simp; omega
  have HV0 : Hid (V = (r0 && scanP n (firstP.drop 0))) := by
    refine Lib.hid ?_
    rw [hV, hr0, List.drop_zero]
    by_cases h : 2 ≤ n
    · rw [scan_isPN h, decide_eq_true h, Bool.true_and]
    · rw [decide_eq_false h, Bool.false_and]
      unfold isPN
      rw [decide_eq_false h, Bool.false_and]
  clear hV hr0 hn
  go_enter Tryz.func48, Tryz.ntmps48
  go_wp2
  go_step3
  go_wp2
  go_step3
  go_wp2_with fail
  refine (HF.out _).mono ?_
  rintro e w1 ⟨rfl, HV⟩
  go_wp2
  try rw [er0]
  clear er0
  go_loopw [3, 9] (fun x3 x9 wr => ∃ (z : Int) (i : Nat), x3 = .bool r0 ∧ x9 = .int .i64 z ∧ z = i ∧ i ≤ 12 ∧ Hid (V = (r0 && scanP n (firstP.drop i))) ∧ Below w.heap.size w wr) (fun _ x9 _ => 12 - (intOf x9).toNat)
  case atStart => exact ⟨0, 0, rfl, rfl, rfl, by omega, HV0, HV⟩
  case round =>
    obtain ⟨z, i, rfl, rfl, hz, hi, HI, HV⟩ := hrel
    by_cases h12 : i = 12
    · subst h12
      obtain rfl : z = 12 := by omega
      clear hz hi
      obtain rfl : V = r0 := by
        rw [HI.out]
        show (r0 && scanP n []) = r0
        rw [scanP, Bool.and_true]
      go_wp2
      rw [Exit.noGoto_ret]
      go_ret
      exact ⟨rfl, HV⟩
    · have hk : i = 0 ∨ i = 1 ∨ i = 2 ∨ i = 3 ∨ i = 4 ∨ i = 5 ∨ i = 6 ∨ i = 7 ∨ i = 8 ∨ i = 9 ∨ i = 10 ∨ i = 11 := by omega
      rcases hk with rfl | rfl | rfl | rfl | rfl | rfl | rfl | rfl | rfl | rfl | rfl | rfl
      · obtain rfl : z = 0 := by omega
        clear hz hi h12
        have hx := idx_p0
        have hI := HI.out
        rw [show firstP.drop 0 = 2 :: firstP.drop 1 from rfl, scanP] at hI
        by_cases he : n = 2
        · obtain rfl : V = r0 := by rw [hI, if_pos he, Bool.and_true]
          have en : (n : Int) = 2 := by omega
          clear he hI
          go_wp2
          rw [Exit.noGoto_ret]
          go_ret
          exact ⟨rfl, HV⟩
        · rw [if_neg he] at hI
          have en : ((n : Int) == 2) = false := beq_false_of_ne (by omega)
          by_cases hr : n % 2 = 0
          · obtain rfl : V = false := by rw [hI, if_pos (.inl hr), Bool.and_false]
            have er : (n : Int) % 2 = 0 := by omega
            clear he hI hr
            go_wp2
            rw [Exit.noGoto_ret]
            go_ret
            exact ⟨rfl, HV⟩
          · have er : ((n : Int) % 2 == 0) = false := beq_false_of_ne (by omega)
            have HSp : Hid (∀ W, Calls Tryz.prog 71 #[.int .u64 (n : Int), .int .u64 2] W (Made W (.bool (strongN n 2)))) := Lib.hid (fun W => HSt.out 2 (by decide) W)
            rcases hs : strongN n 2 with _ | _
            · rw [hs] at HSp hI
              obtain rfl : V = false := by rw [hI, if_pos (.inr rfl), Bool.and_false]
              clear he hI hr hs
              go_wp2_with (go_at_call 71; refine (HSp.out _).mono ?_; rintro e w' ⟨rfl, hb⟩; replace HV := HV.trans (hb.mono HV.size); clear hb)
              rw [Exit.noGoto_ret]
              go_ret
              exact ⟨rfl, HV⟩
            · rw [hs] at HSp hI
              rw [if_neg (by simp [hr])] at hI
              have HI2 := Lib.hid hI
              clear he hI hr hs HI
              go_wp2_with (go_at_call 71; refine (HSp.out _).mono ?_; rintro e w' ⟨rfl, hb⟩; replace HV := HV.trans (hb.mono HV.size); clear hb)
              go_roundw
              case rel => exact ⟨1, 1, rfl, rfl, rfl, by omega, HI2, HV⟩
              case measure => simp [intOf]
      · obtain rfl : z = 1 := by omega
        clear hz hi h12
        have hx := idx_p1
        have hI := HI.out
        rw [show firstP.drop 1 = 3 :: firstP.drop 2 from rfl, scanP] at hI
        by_cases he : n = 3
        · obtain rfl : V = r0 := by rw [hI, if_pos he, Bool.and_true]
          have en : (n : Int) = 3 := by omega
          clear he hI
          go_wp2
          rw [Exit.noGoto_ret]
          go_ret
          exact ⟨rfl, HV⟩
        · rw [if_neg he] at hI
          have en : ((n : Int) == 3) = false := beq_false_of_ne (by omega)
          by_cases hr : n % 3 = 0
          · obtain rfl : V = false := by rw [hI, if_pos (.inl hr), Bool.and_false]
            have er : (n : Int) % 3 = 0 := by omega
            clear he hI hr
            go_wp2
            rw [Exit.noGoto_ret]
            go_ret
            exact ⟨rfl, HV⟩
          · have er : ((n : Int) % 3 == 0) = false := beq_false_of_ne (by omega)
            have HSp : Hid (∀ W, Calls Tryz.prog 71 #[.int .u64 (n : Int), .int .u64 3] W (Made W (.bool (strongN n 3)))) := Lib.hid (fun W => HSt.out 3 (by decide) W)
            rcases hs : strongN n 3 with _ | _
            · rw [hs] at HSp hI
              obtain rfl : V = false := by rw [hI, if_pos (.inr rfl), Bool.and_false]
              clear he hI hr hs
              go_wp2_with (go_at_call 71; refine (HSp.out _).mono ?_; rintro e w' ⟨rfl, hb⟩; replace HV := HV.trans (hb.mono HV.size); clear hb)
              rw [Exit.noGoto_ret]
              go_ret
              exact ⟨rfl, HV⟩
            · rw [hs] at HSp hI
              rw [if_neg (by simp [hr])] at hI
              have HI2 := Lib.hid hI
              clear he hI hr hs HI
              go_wp2_with (go_at_call 71; refine (HSp.out _).mono ?_; rintro e w' ⟨rfl, hb⟩; replace HV := HV.trans (hb.mono HV.size); clear hb)
              go_roundw
              case rel => exact ⟨2, 2, rfl, rfl, rfl, by omega, HI2, HV⟩
              case measure => simp [intOf]
      · obtain rfl : z = 2 := by omega
        clear hz hi h12
        have hx := idx_p2
        have hI := HI.out
        rw [show firstP.drop 2 = 5 :: firstP.drop 3 from rfl, scanP] at hI
        by_cases he : n = 5
        · obtain rfl : V = r0 := by rw [hI, if_pos he, Bool.and_true]
          have en : (n : Int) = 5 := by omega
          clear he hI
          go_wp2
          rw [Exit.noGoto_ret]
          go_ret
          exact ⟨rfl, HV⟩
        · rw [if_neg he] at hI
          have en : ((n : Int) == 5) = false := beq_false_of_ne (by omega)
          by_cases hr : n % 5 = 0
          · obtain rfl : V = false := by rw [hI, if_pos (.inl hr), Bool.and_false]
            have er : (n : Int) % 5 = 0 := by omega
            clear he hI hr
            go_wp2
            rw [Exit.noGoto_ret]
            go_ret
            exact ⟨rfl, HV⟩
          · have er : ((n : Int) % 5 == 0) = false := beq_false_of_ne (by omega)
            have HSp : Hid (∀ W, Calls Tryz.prog 71 #[.int .u64 (n : Int), .int .u64 5] W (Made W (.bool (strongN n 5)))) := Lib.hid (fun W => HSt.out 5 (by decide) W)
            rcases hs : strongN n 5 with _ | _
            · rw [hs] at HSp hI
              obtain rfl : V = false := by rw [hI, if_pos (.inr rfl), Bool.and_false]
              clear he hI hr hs
              go_wp2_with (go_at_call 71; refine (HSp.out _).mono ?_; rintro e w' ⟨rfl, hb⟩; replace HV := HV.trans (hb.mono HV.size); clear hb)
              rw [Exit.noGoto_ret]
              go_ret
              exact ⟨rfl, HV⟩
            · rw [hs] at HSp hI
              rw [if_neg (by simp [hr])] at hI
              have HI2 := Lib.hid hI
              clear he hI hr hs HI
              go_wp2_with (go_at_call 71; refine (HSp.out _).mono ?_; rintro e w' ⟨rfl, hb⟩; replace HV := HV.trans (hb.mono HV.size); clear hb)
              go_roundw
              case rel => exact ⟨3, 3, rfl, rfl, rfl, by omega, HI2, HV⟩
              case measure => simp [intOf]
      · obtain rfl : z = 3 := by omega
        clear hz hi h12
        have hx := idx_p3
        have hI := HI.out
        rw [show firstP.drop 3 = 7 :: firstP.drop 4 from rfl, scanP] at hI
        by_cases he : n = 7
        · obtain rfl : V = r0 := by rw [hI, if_pos he, Bool.and_true]
          have en : (n : Int) = 7 := by omega
          clear he hI
          go_wp2
          rw [Exit.noGoto_ret]
          go_ret
          exact ⟨rfl, HV⟩
        · rw [if_neg he] at hI
          have en : ((n : Int) == 7) = false := beq_false_of_ne (by omega)
          by_cases hr : n % 7 = 0
          · obtain rfl : V = false := by rw [hI, if_pos (.inl hr), Bool.and_false]
            have er : (n : Int) % 7 = 0 := by omega
            clear he hI hr
            go_wp2
            rw [Exit.noGoto_ret]
            go_ret
            exact ⟨rfl, HV⟩
          · have er : ((n : Int) % 7 == 0) = false := beq_false_of_ne (by omega)
            have HSp : Hid (∀ W, Calls Tryz.prog 71 #[.int .u64 (n : Int), .int .u64 7] W (Made W (.bool (strongN n 7)))) := Lib.hid (fun W => HSt.out 7 (by decide) W)
            rcases hs : strongN n 7 with _ | _
            · rw [hs] at HSp hI
              obtain rfl : V = false := by rw [hI, if_pos (.inr rfl), Bool.and_false]
              clear he hI hr hs
              go_wp2_with (go_at_call 71; refine (HSp.out _).mono ?_; rintro e w' ⟨rfl, hb⟩; replace HV := HV.trans (hb.mono HV.size); clear hb)
              rw [Exit.noGoto_ret]
              go_ret
              exact ⟨rfl, HV⟩
            · rw [hs] at HSp hI
              rw [if_neg (by simp [hr])] at hI
              have HI2 := Lib.hid hI
              clear he hI hr hs HI
              go_wp2_with (go_at_call 71; refine (HSp.out _).mono ?_; rintro e w' ⟨rfl, hb⟩; replace HV := HV.trans (hb.mono HV.size); clear hb)
              go_roundw
              case rel => exact ⟨4, 4, rfl, rfl, rfl, by omega, HI2, HV⟩
              case measure => simp [intOf]
      · obtain rfl : z = 4 := by omega
        clear hz hi h12
        have hx := idx_p4
        have hI := HI.out
        rw [show firstP.drop 4 = 11 :: firstP.drop 5 from rfl, scanP] at hI
        by_cases he : n = 11
        · obtain rfl : V = r0 := by rw [hI, if_pos he, Bool.and_true]
          have en : (n : Int) = 11 := by omega
          clear he hI
          go_wp2
          rw [Exit.noGoto_ret]
          go_ret
          exact ⟨rfl, HV⟩
        · rw [if_neg he] at hI
          have en : ((n : Int) == 11) = false := beq_false_of_ne (by omega)
          by_cases hr : n % 11 = 0
          · obtain rfl : V = false := by rw [hI, if_pos (.inl hr), Bool.and_false]
            have er : (n : Int) % 11 = 0 := by omega
            clear he hI hr
            go_wp2
            rw [Exit.noGoto_ret]
            go_ret
            exact ⟨rfl, HV⟩
          · have er : ((n : Int) % 11 == 0) = false := beq_false_of_ne (by omega)
            have HSp : Hid (∀ W, Calls Tryz.prog 71 #[.int .u64 (n : Int), .int .u64 11] W (Made W (.bool (strongN n 11)))) := Lib.hid (fun W => HSt.out 11 (by decide) W)
            rcases hs : strongN n 11 with _ | _
            · rw [hs] at HSp hI
              obtain rfl : V = false := by rw [hI, if_pos (.inr rfl), Bool.and_false]
              clear he hI hr hs
              go_wp2_with (go_at_call 71; refine (HSp.out _).mono ?_; rintro e w' ⟨rfl, hb⟩; replace HV := HV.trans (hb.mono HV.size); clear hb)
              rw [Exit.noGoto_ret]
              go_ret
              exact ⟨rfl, HV⟩
            · rw [hs] at HSp hI
              rw [if_neg (by simp [hr])] at hI
              have HI2 := Lib.hid hI
              clear he hI hr hs HI
              go_wp2_with (go_at_call 71; refine (HSp.out _).mono ?_; rintro e w' ⟨rfl, hb⟩; replace HV := HV.trans (hb.mono HV.size); clear hb)
              go_roundw
              case rel => exact ⟨5, 5, rfl, rfl, rfl, by omega, HI2, HV⟩
              case measure => simp [intOf]
      · obtain rfl : z = 5 := by omega
        clear hz hi h12
        have hx := idx_p5
        have hI := HI.out
        rw [show firstP.drop 5 = 13 :: firstP.drop 6 from rfl, scanP] at hI
        by_cases he : n = 13
        · obtain rfl : V = r0 := by rw [hI, if_pos he, Bool.and_true]
          have en : (n : Int) = 13 := by omega
          clear he hI
          go_wp2
          rw [Exit.noGoto_ret]
          go_ret
          exact ⟨rfl, HV⟩
        · rw [if_neg he] at hI
          have en : ((n : Int) == 13) = false := beq_false_of_ne (by omega)
          by_cases hr : n % 13 = 0
          · obtain rfl : V = false := by rw [hI, if_pos (.inl hr), Bool.and_false]
            have er : (n : Int) % 13 = 0 := by omega
            clear he hI hr
            go_wp2
            rw [Exit.noGoto_ret]
            go_ret
            exact ⟨rfl, HV⟩
          · have er : ((n : Int) % 13 == 0) = false := beq_false_of_ne (by omega)
            have HSp : Hid (∀ W, Calls Tryz.prog 71 #[.int .u64 (n : Int), .int .u64 13] W (Made W (.bool (strongN n 13)))) := Lib.hid (fun W => HSt.out 13 (by decide) W)
            rcases hs : strongN n 13 with _ | _
            · rw [hs] at HSp hI
              obtain rfl : V = false := by rw [hI, if_pos (.inr rfl), Bool.and_false]
              clear he hI hr hs
              go_wp2_with (go_at_call 71; refine (HSp.out _).mono ?_; rintro e w' ⟨rfl, hb⟩; replace HV := HV.trans (hb.mono HV.size); clear hb)
              rw [Exit.noGoto_ret]
              go_ret
              exact ⟨rfl, HV⟩
            · rw [hs] at HSp hI
              rw [if_neg (by simp [hr])] at hI
              have HI2 := Lib.hid hI
              clear he hI hr hs HI
              go_wp2_with (go_at_call 71; refine (HSp.out _).mono ?_; rintro e w' ⟨rfl, hb⟩; replace HV := HV.trans (hb.mono HV.size); clear hb)
              go_roundw
              case rel => exact ⟨6, 6, rfl, rfl, rfl, by omega, HI2, HV⟩
              case measure => simp [intOf]
      · obtain rfl : z = 6 := by omega
        clear hz hi h12
        have hx := idx_p6
        have hI := HI.out
        rw [show firstP.drop 6 = 17 :: firstP.drop 7 from rfl, scanP] at hI
        by_cases he : n = 17
        · obtain rfl : V = r0 := by rw [hI, if_pos he, Bool.and_true]
          have en : (n : Int) = 17 := by omega
          clear he hI
          go_wp2
          rw [Exit.noGoto_ret]
          go_ret
          exact ⟨rfl, HV⟩
        · rw [if_neg he] at hI
          have en : ((n : Int) == 17) = false := beq_false_of_ne (by omega)
          by_cases hr : n % 17 = 0
          · obtain rfl : V = false := by rw [hI, if_pos (.inl hr), Bool.and_false]
            have er : (n : Int) % 17 = 0 := by omega
            clear he hI hr
            go_wp2
            rw [Exit.noGoto_ret]
            go_ret
            exact ⟨rfl, HV⟩
          · have er : ((n : Int) % 17 == 0) = false := beq_false_of_ne (by omega)
            have HSp : Hid (∀ W, Calls Tryz.prog 71 #[.int .u64 (n : Int), .int .u64 17] W (Made W (.bool (strongN n 17)))) := Lib.hid (fun W => HSt.out 17 (by decide) W)
            rcases hs : strongN n 17 with _ | _
            · rw [hs] at HSp hI
              obtain rfl : V = false := by rw [hI, if_pos (.inr rfl), Bool.and_false]
              clear he hI hr hs
              go_wp2_with (go_at_call 71; refine (HSp.out _).mono ?_; rintro e w' ⟨rfl, hb⟩; replace HV := HV.trans (hb.mono HV.size); clear hb)
              rw [Exit.noGoto_ret]
              go_ret
              exact ⟨rfl, HV⟩
            · rw [hs] at HSp hI
              rw [if_neg (by simp [hr])] at hI
              have HI2 := Lib.hid hI
              clear he hI hr hs HI
              go_wp2_with (go_at_call 71; refine (HSp.out _).mono ?_; rintro e w' ⟨rfl, hb⟩; replace HV := HV.trans (hb.mono HV.size); clear hb)
              go_roundw
              case rel => exact ⟨7, 7, rfl, rfl, rfl, by omega, HI2, HV⟩
              case measure => simp [intOf]
      · obtain rfl : z = 7 := by omega
        clear hz hi h12
        have hx := idx_p7
        have hI := HI.out
        rw [show firstP.drop 7 = 19 :: firstP.drop 8 from rfl, scanP] at hI
        by_cases he : n = 19
        · obtain rfl : V = r0 := by rw [hI, if_pos he, Bool.and_true]
          have en : (n : Int) = 19 := by omega
          clear he hI
          go_wp2
          rw [Exit.noGoto_ret]
          go_ret
          exact ⟨rfl, HV⟩
        · rw [if_neg he] at hI
          have en : ((n : Int) == 19) = false := beq_false_of_ne (by omega)
          by_cases hr : n % 19 = 0
          · obtain rfl : V = false := by rw [hI, if_pos (.inl hr), Bool.and_false]
            have er : (n : Int) % 19 = 0 := by omega
            clear he hI hr
            go_wp2
            rw [Exit.noGoto_ret]
            go_ret
            exact ⟨rfl, HV⟩
          · have er : ((n : Int) % 19 == 0) = false := beq_false_of_ne (by omega)
            have HSp : Hid (∀ W, Calls Tryz.prog 71 #[.int .u64 (n : Int), .int .u64 19] W (Made W (.bool (strongN n 19)))) := Lib.hid (fun W => HSt.out 19 (by decide) W)
            rcases hs : strongN n 19 with _ | _
            · rw [hs] at HSp hI
              obtain rfl : V = false := by rw [hI, if_pos (.inr rfl), Bool.and_false]
              clear he hI hr hs
              go_wp2_with (go_at_call 71; refine (HSp.out _).mono ?_; rintro e w' ⟨rfl, hb⟩; replace HV := HV.trans (hb.mono HV.size); clear hb)
              rw [Exit.noGoto_ret]
              go_ret
              exact ⟨rfl, HV⟩
            · rw [hs] at HSp hI
              rw [if_neg (by simp [hr])] at hI
              have HI2 := Lib.hid hI
              clear he hI hr hs HI
              go_wp2_with (go_at_call 71; refine (HSp.out _).mono ?_; rintro e w' ⟨rfl, hb⟩; replace HV := HV.trans (hb.mono HV.size); clear hb)
              go_roundw
              case rel => exact ⟨8, 8, rfl, rfl, rfl, by omega, HI2, HV⟩
              case measure => simp [intOf]
      · obtain rfl : z = 8 := by omega
        clear hz hi h12
        have hx := idx_p8
        have hI := HI.out
        rw [show firstP.drop 8 = 23 :: firstP.drop 9 from rfl, scanP] at hI
        by_cases he : n = 23
        · obtain rfl : V = r0 := by rw [hI, if_pos he, Bool.and_true]
          have en : (n : Int) = 23 := by omega
          clear he hI
          go_wp2
          rw [Exit.noGoto_ret]
          go_ret
          exact ⟨rfl, HV⟩
        · rw [if_neg he] at hI
          have en : ((n : Int) == 23) = false := beq_false_of_ne (by omega)
          by_cases hr : n % 23 = 0
          · obtain rfl : V = false := by rw [hI, if_pos (.inl hr), Bool.and_false]
            have er : (n : Int) % 23 = 0 := by omega
            clear he hI hr
            go_wp2
            rw [Exit.noGoto_ret]
            go_ret
            exact ⟨rfl, HV⟩
          · have er : ((n : Int) % 23 == 0) = false := beq_false_of_ne (by omega)
            have HSp : Hid (∀ W, Calls Tryz.prog 71 #[.int .u64 (n : Int), .int .u64 23] W (Made W (.bool (strongN n 23)))) := Lib.hid (fun W => HSt.out 23 (by decide) W)
            rcases hs : strongN n 23 with _ | _
            · rw [hs] at HSp hI
              obtain rfl : V = false := by rw [hI, if_pos (.inr rfl), Bool.and_false]
              clear he hI hr hs
              go_wp2_with (go_at_call 71; refine (HSp.out _).mono ?_; rintro e w' ⟨rfl, hb⟩; replace HV := HV.trans (hb.mono HV.size); clear hb)
              rw [Exit.noGoto_ret]
              go_ret
              exact ⟨rfl, HV⟩
            · rw [hs] at HSp hI
              rw [if_neg (by simp [hr])] at hI
              have HI2 := Lib.hid hI
              clear he hI hr hs HI
              go_wp2_with (go_at_call 71; refine (HSp.out _).mono ?_; rintro e w' ⟨rfl, hb⟩; replace HV := HV.trans (hb.mono HV.size); clear hb)
              go_roundw
              case rel => exact ⟨9, 9, rfl, rfl, rfl, by omega, HI2, HV⟩
              case measure => simp [intOf]
      · obtain rfl : z = 9 := by omega
        clear hz hi h12
        have hx := idx_p9
        have hI := HI.out
        rw [show firstP.drop 9 = 29 :: firstP.drop 10 from rfl, scanP] at hI
        by_cases he : n = 29
        · obtain rfl : V = r0 := by rw [hI, if_pos he, Bool.and_true]
          have en : (n : Int) = 29 := by omega
          clear he hI
          go_wp2
          rw [Exit.noGoto_ret]
          go_ret
          exact ⟨rfl, HV⟩
        · rw [if_neg he] at hI
          have en : ((n : Int) == 29) = false := beq_false_of_ne (by omega)
          by_cases hr : n % 29 = 0
          · obtain rfl : V = false := by rw [hI, if_pos (.inl hr), Bool.and_false]
            have er : (n : Int) % 29 = 0 := by omega
            clear he hI hr
            go_wp2
            rw [Exit.noGoto_ret]
            go_ret
            exact ⟨rfl, HV⟩
          · have er : ((n : Int) % 29 == 0) = false := beq_false_of_ne (by omega)
            have HSp : Hid (∀ W, Calls Tryz.prog 71 #[.int .u64 (n : Int), .int .u64 29] W (Made W (.bool (strongN n 29)))) := Lib.hid (fun W => HSt.out 29 (by decide) W)
            rcases hs : strongN n 29 with _ | _
            · rw [hs] at HSp hI
              obtain rfl : V = false := by rw [hI, if_pos (.inr rfl), Bool.and_false]
              clear he hI hr hs
              go_wp2_with (go_at_call 71; refine (HSp.out _).mono ?_; rintro e w' ⟨rfl, hb⟩; replace HV := HV.trans (hb.mono HV.size); clear hb)
              rw [Exit.noGoto_ret]
              go_ret
              exact ⟨rfl, HV⟩
            · rw [hs] at HSp hI
              rw [if_neg (by simp [hr])] at hI
              have HI2 := Lib.hid hI
              clear he hI hr hs HI
              go_wp2_with (go_at_call 71; refine (HSp.out _).mono ?_; rintro e w' ⟨rfl, hb⟩; replace HV := HV.trans (hb.mono HV.size); clear hb)
              go_roundw
              case rel => exact ⟨10, 10, rfl, rfl, rfl, by omega, HI2, HV⟩
              case measure => simp [intOf]
      · obtain rfl : z = 10 := by omega
        clear hz hi h12
        have hx := idx_p10
        have hI := HI.out
        rw [show firstP.drop 10 = 31 :: firstP.drop 11 from rfl, scanP] at hI
        by_cases he : n = 31
        · obtain rfl : V = r0 := by rw [hI, if_pos he, Bool.and_true]
          have en : (n : Int) = 31 := by omega
          clear he hI
          go_wp2
          rw [Exit.noGoto_ret]
          go_ret
          exact ⟨rfl, HV⟩
        · rw [if_neg he] at hI
          have en : ((n : Int) == 31) = false := beq_false_of_ne (by omega)
          by_cases hr : n % 31 = 0
          · obtain rfl : V = false := by rw [hI, if_pos (.inl hr), Bool.and_false]
            have er : (n : Int) % 31 = 0 := by omega
            clear he hI hr
            go_wp2
            rw [Exit.noGoto_ret]
            go_ret
            exact ⟨rfl, HV⟩
          · have er : ((n : Int) % 31 == 0) = false := beq_false_of_ne (by omega)
            have HSp : Hid (∀ W, Calls Tryz.prog 71 #[.int .u64 (n : Int), .int .u64 31] W (Made W (.bool (strongN n 31)))) := Lib.hid (fun W => HSt.out 31 (by decide) W)
            rcases hs : strongN n 31 with _ | _
            · rw [hs] at HSp hI
              obtain rfl : V = false := by rw [hI, if_pos (.inr rfl), Bool.and_false]
              clear he hI hr hs
              go_wp2_with (go_at_call 71; refine (HSp.out _).mono ?_; rintro e w' ⟨rfl, hb⟩; replace HV := HV.trans (hb.mono HV.size); clear hb)
              rw [Exit.noGoto_ret]
              go_ret
              exact ⟨rfl, HV⟩
            · rw [hs] at HSp hI
              rw [if_neg (by simp [hr])] at hI
              have HI2 := Lib.hid hI
              clear he hI hr hs HI
              go_wp2_with (go_at_call 71; refine (HSp.out _).mono ?_; rintro e w' ⟨rfl, hb⟩; replace HV := HV.trans (hb.mono HV.size); clear hb)
              go_roundw
              case rel => exact ⟨11, 11, rfl, rfl, rfl, by omega, HI2, HV⟩
              case measure => simp [intOf]
      · obtain rfl : z = 11 := by omega
        clear hz hi h12
        have hx := idx_p11
        have hI := HI.out
        rw [show firstP.drop 11 = 37 :: firstP.drop 12 from rfl, scanP] at hI
        by_cases he : n = 37
        · obtain rfl : V = r0 := by rw [hI, if_pos he, Bool.and_true]
          have en : (n : Int) = 37 := by omega
          clear he hI
          go_wp2
          rw [Exit.noGoto_ret]
          go_ret
          exact ⟨rfl, HV⟩
        · rw [if_neg he] at hI
          have en : ((n : Int) == 37) = false := beq_false_of_ne (by omega)
          by_cases hr : n % 37 = 0
          · obtain rfl : V = false := by rw [hI, if_pos (.inl hr), Bool.and_false]
            have er : (n : Int) % 37 = 0 := by omega
            clear he hI hr
            go_wp2
            rw [Exit.noGoto_ret]
            go_ret
            exact ⟨rfl, HV⟩
          · have er : ((n : Int) % 37 == 0) = false := beq_false_of_ne (by omega)
            have HSp : Hid (∀ W, Calls Tryz.prog 71 #[.int .u64 (n : Int), .int .u64 37] W (Made W (.bool (strongN n 37)))) := Lib.hid (fun W => HSt.out 37 (by decide) W)
            rcases hs : strongN n 37 with _ | _
            · rw [hs] at HSp hI
              obtain rfl : V = false := by rw [hI, if_pos (.inr rfl), Bool.and_false]
              clear he hI hr hs
              go_wp2_with (go_at_call 71; refine (HSp.out _).mono ?_; rintro e w' ⟨rfl, hb⟩; replace HV := HV.trans (hb.mono HV.size); clear hb)
              rw [Exit.noGoto_ret]
              go_ret
              exact ⟨rfl, HV⟩
            · rw [hs] at HSp hI
              rw [if_neg (by simp [hr])] at hI
              have HI2 := Lib.hid hI
              clear he hI hr hs HI
              go_wp2_with (go_at_call 71; refine (HSp.out _).mono ?_; rintro e w' ⟨rfl, hb⟩; replace HV := HV.trans (hb.mono HV.size); clear hb)
              go_roundw
              case rel => exact ⟨12, 12, rfl, rfl, rfl, by omega, HI2, HV⟩
              case measure => simp [intOf]
end Go.Proofs.YtmiafkbjmkaebaaGreat

namespace Go.Proofs.YtmiafkbjmkaebaaGreat
open Go.RowKit Num

set_option maxHeartbeats 2000000 in
set_option maxRecDepth 100000 in
theorem strongu_ok (n a : Nat) (w : World) (hn : n < 18446744073709551616) (ha : a < n) :
    Calls Tryz.prog 76 #[.int .u64 (n : Int), .int .u64 (a : Int)] w (Same w (.bool (strongN n a))) := by
  obtain ⟨V, hV⟩ : ∃ V, V = strongN n a := ⟨_, rfl⟩
  rw [← hV]
  by_cases h3 : n < 3
  · have h12 : n = 1 ∨ n = 2 := by omega
    rcases h12 with rfl | rfl
    · obtain rfl : V = false := by rw [hV]; unfold strongN; simp
      clear hV h3 ha hn
      go_enter Tryz.func76, Tryz.ntmps76
      go_wp2
      go_ret
      exact ⟨rfl, rfl⟩
    · obtain rfl : V = true := by rw [hV]; unfold strongN; simp
      clear hV h3 ha hn
      go_enter Tryz.func76, Tryz.ntmps76
      go_wp2
      go_ret
      exact ⟨rfl, rfl⟩
  · by_cases he : n % 2 = 0
    · obtain rfl : V = false := by rw [hV]; unfold strongN; rw [if_pos (.inl he)]; simp; omega
      have ee : (n : Int) % 2 = 0 := by omega
      have h3' : ¬ ((n : Int) < 3) := by omega
      have h2' : ((n : Int) == 2) = false := beq_false_of_ne (by omega)
      clear hV he ha hn
      go_enter Tryz.func76, Tryz.ntmps76
      go_wp2
      go_ret
      exact ⟨rfl, rfl⟩
    · have ho : n % 2 = 1 := by omega
      have eo : (n : Int) % 2 = 1 := by omega
      by_cases h0 : a = 0
      · subst h0
        obtain rfl : V = true := by rw [hV]; unfold strongN; rw [if_neg (by omega), if_pos (by simp)]
        clear hV he ha hn ho
        go_enter Tryz.func76, Tryz.ntmps76
        go_wp2
        go_ret
        exact ⟨rfl, rfl⟩
      · have ham : a % n ≠ 0 := by rw [Nat.mod_eq_of_lt ha]; exact h0
        have hV2 : V = if a ^ ((n - 1) / 2 ^ tzP (n - 1)) % n = 1 then true else strongL n (tzP (n - 1)) (a ^ ((n - 1) / 2 ^ tzP (n - 1)) % n) := by
          rw [hV]
          unfold strongN
          rw [if_neg (by omega), if_neg ham]
        have h3' : ¬ ((n : Int) < 3) := by omega
        have a0 : ((a : Int) == 0) = false := beq_false_of_ne (by omega)
        obtain ⟨l, hl⟩ : ∃ l, l = n - 1 := ⟨_, rfl⟩
        have el : (n : Int) - 1 = (l : Int) := by omega
        have wl : IntKind.u64.wrap (l : Int) = (l : Int) := by rw [IntKind.wrap_u64]; omega
        have HE := Lib.hid (fun (d : Nat) (hd : d < 18446744073709551616) (W : World) => expmod_ok a d n W ha hd hn)
        have HM := Lib.hid (fun (x : Nat) (hx : x < n) (W : World) => mulmod_ok x x n W hx hx hn)
        have HS := Lib.hid (show l = n - 1 ∧ 0 < n ∧ n < 18446744073709551616 ∧ l ≠ 0 from ⟨hl, by omega, hn, by omega⟩)
        rw [← hl] at hV2
        obtain ⟨S, hS⟩ : ∃ S, S = tzP l := ⟨_, rfl⟩
        obtain ⟨D, hD⟩ : ∃ D, D = l / 2 ^ tzP l := ⟨_, rfl⟩
        have hSl : S ≤ 64 := by
          obtain ⟨e1, e2⟩ := tzP_spec l (by omega)
          have h1 : 2 ^ tzP l ≤ l := by
            have hp : 0 < l / 2 ^ tzP l := Nat.pos_of_ne_zero (fun h => by rw [h] at e2; cases e2)
            have := Nat.le_mul_of_pos_right (2 ^ tzP l) hp
            rwa [← e1] at this
          rw [hS]
          rcases Nat.lt_or_ge 64 (tzP l) with h5 | h5
          · exfalso
            have := Nat.pow_le_pow_right (show 0 < 2 by decide) h5
            have h9 : 2 ^ (64 + 1) = 36893488147419103232 := by decide
            omega
          · exact h5
        rw [← hD, ← hS] at hV2
        have HV2 := Lib.hid hV2
        have HSD := Lib.hid (And.intro hS hD)
        clear hV he ha hn ho hl h0 ham hV2 hS hD
        go_enter Tryz.func76, Tryz.ntmps76
        go_wp2
        go_loopw [5, 6] (fun x5 x6 wr => ∃ d s : Nat, x5 = .int .u64 d ∧ x6 = .int .i64 s ∧ s ≤ 64 ∧ Hid (d ≠ 0 ∧ d ≤ l ∧ s + tzP d = S ∧ d / 2 ^ tzP d = D) ∧ wr = w) (fun x5 _ _ => (intOf x5).toNat)
        case atStart => exact ⟨l, 0, rfl, rfl, by omega, Lib.hid ⟨HS.out.2.2.2, Nat.le_refl _, by rw [HSD.out.1, Nat.zero_add], HSD.out.2.symm⟩, rfl⟩
        case round =>
          obtain ⟨d, s, rfl, rfl, hs, HD, rfl⟩ := hrel
          rcases (show d % 2 = 0 ∨ d % 2 = 1 by omega) with hd | hd
          · have ed : (d : Int) % 2 = 0 := by omega
            obtain ⟨d2, hd2⟩ : ∃ x, x = d / 2 := ⟨_, rfl⟩
            have ed2 : (d : Int) / 2 = (d2 : Int) := by omega
            obtain ⟨g1, g2⟩ := tzP_even HD.out.1 hd
            have HD2 := Lib.hid (show d2 ≠ 0 ∧ d2 ≤ l ∧ s + 1 + tzP d2 = S ∧ d2 / 2 ^ tzP d2 = D from by
              obtain ⟨k1, k2, k3, k4⟩ := HD.out
              rw [hd2]
              exact ⟨by omega, by omega, by omega, by rw [← g2]; exact k4⟩)
            have hs2 : s + 1 ≤ 64 := by have := HD2.out.2.2.1; omega
            have hlt : d2 < d := by have := HD.out.1; omega
            have wd2 : IntKind.u64.wrap (d2 : Int) = (d2 : Int) := by rw [IntKind.wrap_u64]; have := HD.out.2.1; have := HS.out; omega
            clear g1 g2 hd hd2
            go_wp2
            go_roundw
            case rel => exact ⟨d2, s + 1, rfl, by go_num, hs2, HD2, trivial⟩
            case measure => simp [intOf]; omega
          · have ed : (d : Int) % 2 = 1 := by omega
            obtain ⟨rfl, rfl⟩ : d = D ∧ s = S := by
              obtain ⟨g1, g2⟩ := tzP_odd hd
              obtain ⟨k1, k2, k3, k4⟩ := HD.out
              rw [g2] at k4
              exact ⟨k4, by omega⟩
            have HEd := Lib.hid (HE.out d (by have := HD.out.2.1; have := HS.out; omega))
            obtain ⟨x, hx⟩ : ∃ x, x = a ^ d % n := ⟨_, rfl⟩
            rw [← hx] at HEd
            have HX := Lib.hid (show x < n ∧ V = if x = 1 then true else strongL n s x from ⟨by rw [hx]; exact Nat.mod_lt _ HS.out.2.1, by rw [hx]; exact HV2.out⟩)
            clear hd hx HV2 HSD HD
            by_cases hx1 : x = 1
            · obtain rfl : V = true := by rw [HX.out.2, if_pos hx1]
              subst hx1
              go_wp2_with (go_at_call 108; refine (HEd.out _).mono ?_; rintro e w' ⟨rfl, rfl⟩)
              go_ret
              exact ⟨rfl, rfl⟩
            · have hx1' : ((x : Int) == 1) = false := beq_false_of_ne (by omega)
              have HX2 := Lib.hid (show x < n ∧ V = strongL n s x from ⟨HX.out.1, by have := HX.out.2; rwa [if_neg hx1] at this⟩)
              clear HX hx1
              go_wp2_with (go_at_call 108; refine (HEd.out _).mono ?_; rintro e w' ⟨rfl, rfl⟩)
              go_loopw [7, 8] (fun x7 x8 wq => ∃ y i : Nat, x7 = .int .u64 y ∧ x8 = .int .i64 i ∧ i ≤ s ∧ Hid (y < n ∧ V = strongL n (s - i) y) ∧ wq = wr) (fun _ x8 _ => s - (intOf x8).toNat)
              case atStart => exact ⟨x, 0, rfl, rfl, Nat.zero_le _, HX2, rfl⟩
              case round =>
                obtain ⟨y, i, rfl, rfl, hi, HY, rfl⟩ := hrel
                by_cases hlt : i < s
                · have hV3 := HY.out.2
                  rw [show s - i = (s - (i + 1)) + 1 from by omega, strongL, ← HS.out.1] at hV3
                  by_cases hyl : y = l
                  · rw [if_pos hyl] at hV3
                    subst hV3
                    subst hyl
                    go_wp2
                    go_ret
                    exact ⟨rfl, rfl⟩
                  · rw [if_neg hyl] at hV3
                    have hby : ((y : Int) == (l : Int)) = false := beq_false_of_ne (by omega)
                    have HMy := Lib.hid (HM.out y HY.out.1)
                    have HY2 := Lib.hid (show y * y % n < n ∧ V = strongL n (s - (i + 1)) (y * y % n) from ⟨Nat.mod_lt _ HS.out.2.1, hV3⟩)
                    clear hyl hV3
                    go_wp2_with (go_at_call 109; refine (HMy.out _).mono ?_; rintro e w' ⟨rfl, rfl⟩)
                    go_roundw
                    case rel => exact ⟨y * y % n, i + 1, rfl, by go_num, by omega, HY2, trivial⟩
                    case measure => simp [intOf]; omega
                · obtain rfl : V = false := by
                    rw [HY.out.2, show s - i = 0 from by omega]
                    rfl
                  go_wp2
                  go_ret
                  exact ⟨rfl, rfl⟩
end Go.Proofs.YtmiafkbjmkaebaaGreat
