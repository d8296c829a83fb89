/-
  Quadratic reciprocity in plain arithmetic: Gauss's sign G, Eisenstein's count, primes, the Jacobi symbol J.
-/
namespace Go.Proofs.YtmiafkbjmkaebaaGreat.QR

/-- The product of f 1 .. f k. -/
def prodI (f : Nat → Int) : Nat → Int
  | 0 => 1
  | k + 1 => prodI f k * f (k + 1)

def prodL (f : Nat → Int) : List Nat → Int
  | [] => 1
  | x :: l => f x * prodL f l

theorem prodL_perm {f : Nat → Int} {l l' : List Nat} (h : l.Perm l') : prodL f l = prodL f l' := by
  induction h with
  | nil => rfl
  | cons x _ ih => simp only [prodL, ih]
  | swap x y l => simp only [prodL]; rw [← Int.mul_assoc, ← Int.mul_assoc, Int.mul_comm (f y)]
  | trans _ _ h1 h2 => exact h1.trans h2

theorem prodL_append (f : Nat → Int) (l l' : List Nat) : prodL f (l ++ l') = prodL f l * prodL f l' := by
  induction l with
  | nil => simp [prodL]
  | cons x l ih => simp only [List.cons_append, prodL, ih, Int.mul_assoc]

theorem prodL_map (f : Nat → Int) (g : Nat → Nat) (l : List Nat) : prodL f (l.map g) = prodL (fun x => f (g x)) l := by
  induction l with
  | nil => rfl
  | cons x l ih => simp only [List.map_cons, prodL, ih]

def upTo (k : Nat) : List Nat := (List.range k).map (· + 1)
theorem mem_upTo {k x : Nat} : x ∈ upTo k ↔ 1 ≤ x ∧ x ≤ k := by
  unfold upTo
  simp only [List.mem_map, List.mem_range]
  constructor
  · rintro ⟨y, h, rfl⟩; omega
  · intro h; exact ⟨x - 1, by omega, by omega⟩
theorem upTo_succ (k : Nat) : upTo (k + 1) = upTo k ++ [k + 1] := by
  unfold upTo
  rw [List.range_succ, List.map_append]
  rfl
theorem upTo_length (k : Nat) : (upTo k).length = k := by simp [upTo]
theorem upTo_nodup (k : Nat) : (upTo k).Nodup := by
  unfold upTo
  induction k with
  | zero => simp
  | succ k ih =>
    rw [List.range_succ, List.map_append, List.nodup_append]
    refine ⟨ih, by simp, ?_⟩
    intro x hx y hy
    simp only [List.mem_map, List.mem_range, List.mem_singleton] at hx hy
    obtain ⟨z, hz, rfl⟩ := hx
    obtain ⟨z', rfl, rfl⟩ := hy
    omega
theorem prodI_list (f : Nat → Int) (k : Nat) : prodI f k = prodL f (upTo k) := by
  induction k with
  | zero => rfl
  | succ k ih => rw [prodI, ih, upTo_succ, prodL_append]; simp [prodL]

theorem perm_of {l1 l2 : List Nat} (h1 : l1.Nodup) (hs : ∀ x, x ∈ l1 → x ∈ l2) (hl : l2.length ≤ l1.length) : l1.Perm l2 := by
  induction l1 generalizing l2 with
  | nil =>
    cases l2 with
    | nil => exact .refl _
    | cons y l => simp at hl
  | cons x t ih =>
    rw [List.nodup_cons] at h1
    have hx : x ∈ l2 := hs x List.mem_cons_self
    have hp := List.perm_cons_erase hx
    refine .trans (.cons x (ih h1.2 (fun y hy => ?_) ?_)) hp.symm
    · refine (List.mem_erase_of_ne ?_).2 (hs y (List.mem_cons_of_mem _ hy))
      rintro rfl
      exact h1.1 hy
    · rw [List.length_erase_of_mem hx]
      simp only [List.length_cons] at hl
      omega

theorem map_nodup {l : List Nat} {g : Nat → Nat} (h : l.Nodup) (hg : ∀ x, x ∈ l → ∀ y, y ∈ l → g x = g y → x = y) : (l.map g).Nodup := by
  induction l with
  | nil => simp
  | cons x t ih =>
    rw [List.nodup_cons] at h
    rw [List.map_cons, List.nodup_cons]
    refine ⟨fun hm => ?_, ih h.2 (fun a ha b hb => hg a (List.mem_cons_of_mem _ ha) b (List.mem_cons_of_mem _ hb))⟩
    obtain ⟨y, hy, e⟩ := List.mem_map.1 hm
    have := hg y (List.mem_cons_of_mem _ hy) x List.mem_cons_self e
    subst this
    exact h.1 hy

/-- A product over all of 1 .. k in another order. -/
theorem prodI_perm {f : Nat → Int} {g : Nat → Nat} {k : Nat} (hr : ∀ x, 1 ≤ x → x ≤ k → 1 ≤ g x ∧ g x ≤ k) (hg : ∀ x y, 1 ≤ x → x ≤ k → 1 ≤ y → y ≤ k → g x = g y → x = y) :
    prodI (fun x => f (g x)) k = prodI f k := by
  rw [prodI_list, prodI_list, ← prodL_map]
  refine prodL_perm (perm_of (map_nodup (upTo_nodup k) (fun x hx y hy => ?_)) (fun y hy => ?_) (by simp))
  · rw [mem_upTo] at hx hy
    exact hg x y hx.1 hx.2 hy.1 hy.2
  · obtain ⟨x, hx, rfl⟩ := List.mem_map.1 hy
    rw [mem_upTo] at hx ⊢
    exact hr x hx.1 hx.2

theorem prodI_mul (f g : Nat → Int) (k : Nat) : prodI (fun x => f x * g x) k = prodI f k * prodI g k := by
  induction k with
  | zero => rfl
  | succ k ih => simp only [prodI, ih]; simp only [Int.mul_assoc]; rw [Int.mul_left_comm (f (k+1)) (prodI g k)]
theorem prodI_congr {f g : Nat → Int} {k : Nat} (h : ∀ x, 1 ≤ x → x ≤ k → f x = g x) : prodI f k = prodI g k := by
  induction k with
  | zero => rfl
  | succ k ih => rw [prodI, prodI, ih (fun x h1 h2 => h x h1 (by omega)), h (k + 1) (by omega) (by omega)]

/-- y with the sign s is the least remainder of z modulo n. -/
def Sg (n : Nat) (z : Int) (y : Nat) (s : Int) : Prop := 1 ≤ y ∧ 2 * y < n ∧ (s = 1 ∨ s = -1) ∧ (n : Int) ∣ (y : Int) - s * z

theorem dvd_small {n : Nat} {d : Int} (h : (n : Int) ∣ d) (h1 : -(n : Int) < d) (h2 : d < n) : d = 0 := by
  obtain ⟨k, rfl⟩ := h
  rcases Int.lt_trichotomy k 0 with hk | hk | hk
  · exfalso
    have : (n : Int) * k ≤ (n : Int) * (-1) := Int.mul_le_mul_of_nonneg_left (by omega) (by omega)
    omega
  · rw [hk, Int.mul_zero]
  · exfalso
    have : (n : Int) * 1 ≤ (n : Int) * k := Int.mul_le_mul_of_nonneg_left (by omega) (by omega)
    omega

theorem Sg_unique {n : Nat} {z : Int} {y y' : Nat} {s s' : Int} (h : Sg n z y s) (h' : Sg n z y' s') : y = y' ∧ s = s' := by
  obtain ⟨a1, a2, a3, a4⟩ := h
  obtain ⟨b1, b2, b3, b4⟩ := h'
  by_cases hs : s = s'
  · subst hs
    have := Int.dvd_sub a4 b4
    rw [show (y : Int) - s * z - ((y' : Int) - s * z) = y - y' from by omega] at this
    have := dvd_small this (by omega) (by omega)
    exact ⟨by omega, rfl⟩
  · exfalso
    have hs' : s' = -s := by omega
    subst hs'
    have := Int.dvd_add a4 b4
    rw [show (y : Int) - s * z + ((y' : Int) - -s * z) = y + y' from by rw [Int.neg_mul]; omega] at this
    have := dvd_small this (by omega) (by omega)
    omega

theorem Sg_comp {n : Nat} {b z : Int} {y y2 : Nat} {s s2 : Int} (h : Sg n z y s) (h2 : Sg n (b * y) y2 s2) : Sg n (b * z) y2 (s * s2) := by
  obtain ⟨_, _, a3, a4⟩ := h
  obtain ⟨b1, b2, b3, b4⟩ := h2
  refine ⟨b1, b2, by rcases a3 with rfl | rfl <;> rcases b3 with rfl | rfl <;> simp, ?_⟩
  have := Int.dvd_add b4 (Int.dvd_trans a4 (Int.dvd_mul_left (s2 * b) _))
  have e : (y2 : Int) - s2 * (b * y) + s2 * b * (y - s * z) = y2 - s * s2 * (b * z) := by
    simp only [Int.mul_sub, Int.mul_assoc, Int.mul_left_comm s]
    rw [Int.mul_left_comm b s z]
    omega
  rwa [e] at this

/-- The sign and the size of the least remainder of a x. -/
def sg (a n x : Nat) : Int := if n < 2 * (a * x % n) then -1 else 1
def av (a n x : Nat) : Nat := if n < 2 * (a * x % n) then n - a * x % n else a * x % n

theorem Sg_of {a n x : Nat} (hn : n % 2 = 1) (h : a * x % n ≠ 0) : Sg n (((a * x : Nat) : Int)) (av a n x) (sg a n x) := by
  have hd := Nat.div_add_mod (a * x) n
  have hl := Nat.mod_lt (a * x) (show n > 0 by omega)
  unfold av sg
  split
  · refine ⟨by omega, by omega, .inr rfl, ?_⟩
    refine ⟨(a * x / n : Nat) + 1, ?_⟩
    rw [Int.mul_add, ← Int.natCast_mul]
    omega
  · refine ⟨by omega, by omega, .inl rfl, ?_⟩
    refine ⟨-((a * x / n : Nat) : Int), ?_⟩
    rw [Int.mul_neg, ← Int.natCast_mul]
    omega

theorem cop_mod {a n x : Nat} (hg : Nat.gcd a n = 1) (h0 : x % n ≠ 0) : a * x % n ≠ 0 := by
  intro h
  apply h0
  have h1 : n ∣ a * x := Nat.dvd_of_mod_eq_zero h
  exact Nat.mod_eq_zero_of_dvd (Nat.Coprime.dvd_of_dvd_mul_left (by rw [Nat.Coprime, Nat.gcd_comm]; exact hg) h1)

/-- Gauss's sign: the product of the signs of the least remainders of a, 2 a, .., (n - 1)/2 a. -/
def G (a n : Nat) : Int := prodI (sg a n) ((n - 1) / 2)

theorem half_mod {n x : Nat} (hx : 1 ≤ x) (h : x ≤ (n - 1) / 2) : x % n = x ∧ x % n ≠ 0 := by
  rw [Nat.mod_eq_of_lt (by omega)]
  omega

theorem av_inj {a n : Nat} (hn : n % 2 = 1) (hg : Nat.gcd a n = 1) {x y : Nat} (hx : 1 ≤ x) (hx2 : x ≤ (n - 1) / 2) (hy : 1 ≤ y) (hy2 : y ≤ (n - 1) / 2) (h : av a n x = av a n y) : x = y := by
  obtain ⟨p1, p2, p3, p4⟩ := Sg_of (a := a) hn (cop_mod hg (half_mod hx hx2).2)
  obtain ⟨q1, q2, q3, q4⟩ := Sg_of (a := a) hn (cop_mod hg (half_mod hy hy2).2)
  rw [h] at p4
  have hd := Int.dvd_sub p4 q4
  have cop : ∀ z : Int, (n : Int) ∣ (a : Int) * z → (n : Int) ∣ z := by
    intro z hz
    rw [← Int.natAbs_dvd_natAbs] at hz ⊢
    rw [Int.natAbs_mul, Int.natAbs_natCast, Int.natAbs_natCast] at hz
    rw [Int.natAbs_natCast]
    exact Nat.Coprime.dvd_of_dvd_mul_left (by rw [Nat.Coprime, Nat.gcd_comm]; exact hg) hz
  generalize sg a n x = s at *
  generalize sg a n y = s' at *
  have e : ((av a n y : Int) - s * ((a * x : Nat) : Int) - ((av a n y : Int) - s' * ((a * y : Nat) : Int))) = (a : Int) * (s' * y - s * x) := by
    rw [Int.natCast_mul, Int.natCast_mul, Int.mul_sub, Int.mul_left_comm s, Int.mul_left_comm s']
    omega
  rw [e] at hd
  have hz := cop _ hd
  rcases p3 with rfl | rfl <;> rcases q3 with rfl | rfl
  · have := dvd_small hz (by omega) (by omega); omega
  · have := dvd_small hz (by omega) (by omega); omega
  · have := dvd_small hz (by omega) (by omega); omega
  · have := dvd_small hz (by omega) (by omega); omega

theorem av_range {a n : Nat} (hn : n % 2 = 1) (hg : Nat.gcd a n = 1) {x : Nat} (hx : 1 ≤ x) (hx2 : x ≤ (n - 1) / 2) : 1 ≤ av a n x ∧ av a n x ≤ (n - 1) / 2 := by
  obtain ⟨p1, p2, _, _⟩ := Sg_of (a := a) hn (cop_mod hg (half_mod hx hx2).2)
  omega

theorem G_mul {a b n : Nat} (hn : n % 2 = 1) (ha : Nat.gcd a n = 1) (hb : Nat.gcd b n = 1) : G (a * b) n = G a n * G b n := by
  unfold G
  have hab : Nat.gcd (a * b) n = 1 := Nat.Coprime.mul_left ha hb
  rw [prodI_congr (g := fun x => sg b n x * sg a n (av b n x)) (fun x h1 h2 => ?_), prodI_mul, prodI_perm (f := sg a n) (fun x h1 h2 => av_range hn hb h1 h2) (fun x y h1 h2 h3 h4 e => av_inj hn hb h1 h2 h3 h4 e), Int.mul_comm]
  have hm := (half_mod h1 h2).2
  obtain ⟨r1, r2⟩ := av_range hn hb h1 h2
  have k1 := Sg_of (a := a * b) hn (cop_mod hab hm)
  have k2 := Sg_of (a := b) hn (cop_mod hb hm)
  have k3 := Sg_of (a := a) (x := av b n x) hn (cop_mod ha (half_mod r1 r2).2)
  rw [Int.natCast_mul] at k3
  have k4 := Sg_comp k2 k3
  rw [← Int.natCast_mul, ← Nat.mul_assoc] at k4
  exact (Sg_unique k1 k4).2

theorem G_mod (a n : Nat) : G (a % n) n = G a n := by
  unfold G
  refine prodI_congr (fun x _ _ => ?_)
  unfold sg
  rw [Nat.mod_mul_mod]

def sumN (f : Nat → Nat) : Nat → Nat
  | 0 => 0
  | k + 1 => sumN f k + f (k + 1)
theorem sumN_congr {f g : Nat → Nat} {k : Nat} (h : ∀ x, 1 ≤ x → x ≤ k → f x = g x) : sumN f k = sumN g k := by
  induction k with
  | zero => rfl
  | succ k ih => rw [sumN, sumN, ih (fun x h1 h2 => h x h1 (by omega)), h (k + 1) (by omega) (by omega)]
theorem sumN_add (f g : Nat → Nat) (k : Nat) : sumN (fun x => f x + g x) k = sumN f k + sumN g k := by
  induction k with
  | zero => rfl
  | succ k ih => simp only [sumN, ih]; omega
theorem sumN_mul (c : Nat) (f : Nat → Nat) (k : Nat) : sumN (fun x => c * f x) k = c * sumN f k := by
  induction k with
  | zero => rfl
  | succ k ih => simp only [sumN, ih, Nat.mul_add]
theorem sumN_const (c k : Nat) : sumN (fun _ => c) k = k * c := by
  induction k with
  | zero => simp [sumN]
  | succ k ih => rw [sumN, ih, Nat.succ_mul]
theorem sumN_comm (f : Nat → Nat → Nat) (k l : Nat) : sumN (fun x => sumN (fun y => f x y) l) k = sumN (fun y => sumN (fun x => f x y) k) l := by
  induction k with
  | zero => simp only [sumN]; rw [sumN_const]; simp
  | succ k ih => simp only [sumN, ih]; rw [← sumN_add]
theorem sumN_mod (f : Nat → Nat) (c k : Nat) : sumN f k % c = sumN (fun x => f x % c) k % c := by
  induction k with
  | zero => rfl
  | succ k ih => rw [sumN, sumN, Nat.add_mod, ih, ← Nat.add_mod, Nat.add_mod, Nat.add_mod (sumN _ k), Nat.mod_mod]
def sumL (f : Nat → Nat) : List Nat → Nat
  | [] => 0
  | x :: l => f x + sumL f l
theorem sumL_perm {f : Nat → Nat} {l l' : List Nat} (h : l.Perm l') : sumL f l = sumL f l' := by
  induction h with
  | nil => rfl
  | cons x _ ih => simp only [sumL, ih]
  | swap x y l => simp only [sumL]; omega
  | trans _ _ h1 h2 => exact h1.trans h2
theorem sumL_append (f : Nat → Nat) (l l' : List Nat) : sumL f (l ++ l') = sumL f l + sumL f l' := by
  induction l with
  | nil => simp [sumL]
  | cons x l ih => simp only [List.cons_append, sumL, ih, Nat.add_assoc]
theorem sumL_map (f : Nat → Nat) (g : Nat → Nat) (l : List Nat) : sumL f (l.map g) = sumL (fun x => f (g x)) l := by
  induction l with
  | nil => rfl
  | cons x l ih => simp only [List.map_cons, sumL, ih]
theorem sumN_list (f : Nat → Nat) (k : Nat) : sumN f k = sumL f (upTo k) := by
  induction k with
  | zero => rfl
  | succ k ih => rw [sumN, ih, upTo_succ, sumL_append]; simp [sumL]
theorem sumN_perm {f : Nat → Nat} {g : Nat → Nat} {k : Nat} (hr : ∀ x, 1 ≤ x → x ≤ k → 1 ≤ g x ∧ g x ≤ k) (hg : ∀ x y, 1 ≤ x → x ≤ k → 1 ≤ y → y ≤ k → g x = g y → x = y) :
    sumN (fun x => f (g x)) k = sumN f k := by
  rw [sumN_list, sumN_list, ← sumL_map]
  refine sumL_perm (perm_of (map_nodup (upTo_nodup k) (fun x hx y hy => ?_)) (fun y hy => ?_) (by simp))
  · rw [mem_upTo] at hx hy
    exact hg x y hx.1 hx.2 hy.1 hy.2
  · obtain ⟨x, hx, rfl⟩ := List.mem_map.1 hy
    rw [mem_upTo] at hx ⊢
    exact hr x hx.1 hx.2

/-- The sign of a parity. -/
def par (k : Nat) : Int := if k % 2 = 1 then -1 else 1
theorem par_add (j k : Nat) : par (j + k) = par j * par k := by
  unfold par
  rcases (show j % 2 = 0 ∨ j % 2 = 1 by omega) with h | h <;> rcases (show k % 2 = 0 ∨ k % 2 = 1 by omega) with h' | h'
  · rw [if_neg (by omega), if_neg (by omega), if_neg (by omega)]; rfl
  · rw [if_pos (by omega), if_neg (by omega), if_pos (by omega)]; rfl
  · rw [if_pos (by omega), if_pos (by omega), if_neg (by omega)]; rfl
  · rw [if_neg (by omega), if_pos (by omega), if_pos (by omega)]; rfl
theorem par_mod {j k : Nat} (h : j % 2 = k % 2) : par j = par k := by unfold par; rw [h]

/-- How many of a, 2 a, .. have a negative least remainder. -/
def mu (a n x : Nat) : Nat := if n < 2 * (a * x % n) then 1 else 0
theorem G_par (a n : Nat) : G a n = par (sumN (mu a n) ((n - 1) / 2)) := by
  unfold G
  generalize (n - 1) / 2 = k
  induction k with
  | zero => rfl
  | succ k ih =>
    rw [prodI, sumN, par_add, ih]
    congr 1
    unfold sg mu
    split <;> rfl

/-- Eisenstein: the parity is that of the sum of the quotients. -/
theorem eis {a n : Nat} (hn : n % 2 = 1) (ho : a % 2 = 1) (hg : Nat.gcd a n = 1) : G a n = par (sumN (fun x => a * x / n) ((n - 1) / 2)) := by
  rw [G_par]
  apply par_mod
  have hp : sumN (av a n) ((n - 1) / 2) = sumN (fun x => x) ((n - 1) / 2) :=
    sumN_perm (f := fun x => x) (g := av a n) (fun x h1 h2 => av_range hn hg h1 h2) (fun x y h1 h2 h3 h4 e => av_inj hn hg h1 h2 h3 h4 e)
  have hs : ∀ x, (a * x / n + mu a n x + av a n x) % 2 = x % 2 := by
    intro x
    have hd := Nat.div_add_mod (a * x) n
    have hl := Nat.mod_lt (a * x) (show n > 0 by omega)
    have e1 : (n * (a * x / n)) % 2 = (a * x / n) % 2 := by rw [Nat.mul_mod, hn, Nat.one_mul, Nat.mod_mod]
    have e2 : (a * x) % 2 = x % 2 := by rw [Nat.mul_mod, ho, Nat.one_mul, Nat.mod_mod]
    unfold mu av
    split <;> omega
  have h1 : sumN (fun x => a * x / n + mu a n x + av a n x) ((n - 1) / 2) % 2 = sumN (fun x => x) ((n - 1) / 2) % 2 := by
    rw [sumN_mod, sumN_mod (fun x => x)]
    congr 1
    exact sumN_congr (fun x _ _ => hs x)
  rw [sumN_add, sumN_add, hp] at h1
  omega

/-- How many y up to k are at most q. -/
theorem count_le (q k : Nat) (h : q ≤ k) : sumN (fun y => if y ≤ q then 1 else 0) k = q := by
  induction k with
  | zero => simp [sumN]; omega
  | succ k ih =>
    rw [sumN]
    by_cases hq : q ≤ k
    · rw [ih hq, if_neg (by omega), Nat.add_zero]
    · obtain rfl : q = k + 1 := by omega
      rw [if_pos (Nat.le_refl _), sumN_congr (g := fun _ => 1) (fun x h1 h2 => if_pos (by omega)), sumN_const]
      omega

theorem lattice {a n : Nat} (hn : n % 2 = 1) (ha : a % 2 = 1) (hg : Nat.gcd a n = 1) :
    sumN (fun x => a * x / n) ((n - 1) / 2) + sumN (fun y => n * y / a) ((a - 1) / 2) = (n - 1) / 2 * ((a - 1) / 2) := by
  have hq : ∀ {a n : Nat}, n % 2 = 1 → a % 2 = 1 → ∀ x, 1 ≤ x → x ≤ (n - 1) / 2 → a * x / n ≤ (a - 1) / 2 := by
    intro a n hn ha x h1 h2
    have : a * x / n < (a - 1) / 2 + 1 := by
      rw [Nat.div_lt_iff_lt_mul (by omega)]
      have e1 : n = 2 * ((n - 1) / 2) + 1 := by omega
      have e2 : a = 2 * ((a - 1) / 2) + 1 := by omega
      generalize (n - 1) / 2 = k at *
      generalize (a - 1) / 2 = j at *
      subst e1 e2
      have : (2 * j + 1) * x ≤ (2 * j + 1) * k := Nat.mul_le_mul_left _ h2
      have e3 : (2 * j + 1) * k = 2 * (j * k) + k := by rw [Nat.add_mul, Nat.one_mul, Nat.mul_assoc]
      have e4 : (j + 1) * (2 * k + 1) = 2 * (j * k) + j + 2 * k + 1 := by
        rw [Nat.add_mul, Nat.one_mul, Nat.mul_add, Nat.mul_one, Nat.mul_left_comm]
        omega
      omega
    omega
  have s1 : sumN (fun x => a * x / n) ((n - 1) / 2) = sumN (fun x => sumN (fun y => if n * y ≤ a * x then 1 else 0) ((a - 1) / 2)) ((n - 1) / 2) := by
    refine sumN_congr (fun x h1 h2 => ?_)
    rw [← count_le (a * x / n) ((a - 1) / 2) (hq hn ha x h1 h2)]
    refine sumN_congr (fun y _ _ => ?_)
    have : y ≤ a * x / n ↔ n * y ≤ a * x := by rw [Nat.le_div_iff_mul_le (by omega), Nat.mul_comm]
    simp only [this]
  have s2 : sumN (fun y => n * y / a) ((a - 1) / 2) = sumN (fun x => sumN (fun y => if a * x ≤ n * y then 1 else 0) ((a - 1) / 2)) ((n - 1) / 2) := by
    rw [sumN_comm]
    refine sumN_congr (fun y h1 h2 => ?_)
    rw [← count_le (n * y / a) ((n - 1) / 2) (hq ha hn y h1 h2)]
    refine sumN_congr (fun x _ _ => ?_)
    have : x ≤ n * y / a ↔ a * x ≤ n * y := by rw [Nat.le_div_iff_mul_le (by omega), Nat.mul_comm]
    simp only [this]
  rw [s1, s2, ← sumN_add]
  rw [sumN_congr (g := fun _ => (a - 1) / 2), sumN_const]
  intro x h1 h2
  rw [← sumN_add, sumN_congr (g := fun _ => 1), sumN_const, Nat.mul_one]
  intro y h3 h4
  have hne : n * y ≠ a * x := by
    intro e
    have h5 : n ∣ a * x := ⟨y, e.symm⟩
    have h6 : n ∣ x := Nat.Coprime.dvd_of_dvd_mul_left (by rw [Nat.Coprime, Nat.gcd_comm]; exact hg) h5
    have := Nat.le_of_dvd (by omega) h6
    omega
  rcases Nat.lt_or_gt_of_ne hne with h | h
  · rw [if_pos (by omega), if_neg (by omega)]
  · rw [if_neg (by omega), if_pos (by omega)]

/-- The law of reciprocity. -/
theorem recip {a n : Nat} (hn : n % 2 = 1) (ha : a % 2 = 1) (hg : Nat.gcd a n = 1) : G a n * G n a = par ((n - 1) / 2 * ((a - 1) / 2)) := by
  rw [eis hn ha hg, eis ha hn (by rw [Nat.gcd_comm]; exact hg), ← par_add, lattice hn ha hg]

theorem G_one_or (a n : Nat) : G a n = 1 ∨ G a n = -1 := by
  rw [G_par]
  unfold par
  split
  · exact .inr rfl
  · exact .inl rfl
theorem G_sq (a n : Nat) : G a n * G a n = 1 := by rcases G_one_or a n with h | h <;> rw [h] <;> rfl
theorem recip' {a n : Nat} (hn : n % 2 = 1) (ha : a % 2 = 1) (hg : Nat.gcd a n = 1) : G a n = par ((n - 1) / 2 * ((a - 1) / 2)) * G n a := by
  rw [← recip hn ha hg, Int.mul_assoc, G_sq, Int.mul_one]

theorem G_two {n : Nat} (hn : n % 2 = 1) : G 2 n = if n % 8 = 3 ∨ n % 8 = 5 then -1 else 1 := by
  rw [G_par]
  have h1 : sumN (mu 2 n) ((n - 1) / 2) + sumN (fun x => if x ≤ n / 4 then 1 else 0) ((n - 1) / 2) = (n - 1) / 2 := by
    rw [← sumN_add, sumN_congr (g := fun _ => 1), sumN_const, Nat.mul_one]
    intro x h1 h2
    unfold mu
    rw [Nat.mod_eq_of_lt (by omega)]
    split <;> split <;> omega
  rw [count_le (n / 4) ((n - 1) / 2) (by omega)] at h1
  unfold par
  split <;> split <;> first | rfl | (exfalso; omega)

theorem half_mul {i j : Nat} (hi : i % 2 = 1) (hj : j % 2 = 1) : (i * j - 1) / 2 % 2 = ((i - 1) / 2 + (j - 1) / 2) % 2 := by
  obtain ⟨u, rfl⟩ : ∃ u, i = 2 * u + 1 := ⟨i / 2, by omega⟩
  obtain ⟨v, rfl⟩ : ∃ v, j = 2 * v + 1 := ⟨j / 2, by omega⟩
  have e : (2 * u + 1) * (2 * v + 1) = 2 * (2 * (u * v) + u + v) + 1 := by
    rw [Nat.add_mul, Nat.one_mul, Nat.mul_add, Nat.mul_one, Nat.mul_assoc, Nat.mul_left_comm u]
    omega
  rw [e]
  omega

theorem par_sq (k : Nat) : par k * par k = 1 := by unfold par; split <;> rfl
theorem par_mul {a b c d : Nat} (h : a % 2 = (b + c) % 2) : par (a * d) = par (b * d) * par (c * d) := by
  rw [← par_add, ← Nat.add_mul]
  apply par_mod
  rw [Nat.mul_mod, h, ← Nat.mul_mod]

theorem G_right_odd {a i j : Nat} (hi : i % 2 = 1) (hj : j % 2 = 1) (ha : a % 2 = 1) (h1 : Nat.gcd a i = 1) (h2 : Nat.gcd a j = 1) : G a (i * j) = G a i * G a j := by
  have hij : i * j % 2 = 1 := by rw [Nat.mul_mod, hi, hj]
  have hg : Nat.gcd a (i * j) = 1 := Nat.Coprime.mul_right h1 h2
  have g1 : Nat.gcd i a = 1 := by rw [Nat.gcd_comm]; exact h1
  have g2 : Nat.gcd j a = 1 := by rw [Nat.gcd_comm]; exact h2
  rw [recip' hij ha hg, recip' hi ha h1, recip' hj ha h2, G_mul ha g1 g2, par_mul (half_mul hi hj)]
  simp only [Int.mul_assoc, Int.mul_left_comm (G i a)]

theorem G_right {a i j : Nat} (hi : i % 2 = 1) (hj : j % 2 = 1) (h1 : Nat.gcd a i = 1) (h2 : Nat.gcd a j = 1) : G a (i * j) = G a i * G a j := by
  have hij : i * j % 2 = 1 := by rw [Nat.mul_mod, hi, hj]
  rcases (show a % 2 = 1 ∨ a % 2 = 0 by omega) with ha | ha
  · exact G_right_odd hi hj ha h1 h2
  · have ho : (a + i * j) % 2 = 1 := by omega
    have e1 : (a + i * j) % i = a % i := by rw [Nat.add_mul_mod_self_left]
    have e2 : (a + i * j) % j = a % j := by rw [Nat.add_mul_mod_self_right]
    have e3 : (a + i * j) % (i * j) = a % (i * j) := by rw [Nat.add_mod_right]
    have k1 : Nat.gcd (a + i * j) i = 1 := by rw [← h1, Nat.gcd_comm, Nat.gcd_rec, e1, ← Nat.gcd_rec, Nat.gcd_comm]
    have k2 : Nat.gcd (a + i * j) j = 1 := by rw [← h2, Nat.gcd_comm, Nat.gcd_rec, e2, ← Nat.gcd_rec, Nat.gcd_comm]
    have := G_right_odd hi hj ho k1 k2
    rwa [← G_mod _ (i * j), ← G_mod _ i, ← G_mod _ j, e1, e2, e3, G_mod, G_mod, G_mod] at this

def IsP (p : Nat) : Prop := 2 ≤ p ∧ ∀ d, d ∣ p → d = 1 ∨ d = p
theorem IsP.gcd {p x : Nat} (h : IsP p) (hx : x % p ≠ 0) : Nat.gcd x p = 1 := by
  rcases h.2 _ (Nat.gcd_dvd_right x p) with h1 | h1
  · exact h1
  · exfalso
    apply hx
    have := Nat.gcd_dvd_left x p
    rw [h1] at this
    exact Nat.mod_eq_zero_of_dvd this
theorem IsP.mul {p x y : Nat} (h : IsP p) (hx : x % p ≠ 0) (hy : y % p ≠ 0) : x * y % p ≠ 0 := cop_mod (h.gcd hx) hy

def prodN : List Nat → Nat
  | [] => 1
  | x :: l => x * prodN l
theorem prodN_perm {l l' : List Nat} (h : l.Perm l') : prodN l = prodN l' := by
  induction h with
  | nil => rfl
  | cons x _ ih => simp only [prodN, ih]
  | swap x y l => simp only [prodN]; rw [Nat.mul_left_comm]
  | trans _ _ h1 h2 => exact h1.trans h2

theorem pair_prod (p c : Nat) : ∀ (k : Nat) (l : List Nat), l.length ≤ k → l.Nodup → (∀ x, x ∈ l → ∃ y, y ∈ l ∧ y ≠ x ∧ x * y % p = c % p) → (∀ x, x ∈ l → ∀ y, y ∈ l → ∀ z, z ∈ l → x * y % p = c % p → x * z % p = c % p → y = z) →
    prodN l % p = c ^ (l.length / 2) % p := by
  intro k
  induction k with
  | zero =>
    intro l hl _ _ _
    cases l with
    | nil => simp [prodN]
    | cons x t => simp at hl
  | succ k ih =>
    intro l hl hn hc hu
    cases l with
    | nil => simp [prodN]
    | cons x t =>
      rw [List.nodup_cons] at hn
      obtain ⟨y, hy, hyx, hxy⟩ := hc x List.mem_cons_self
      have hyt : y ∈ t := by
        rcases List.mem_cons.1 hy with h | h
        · exact absurd h hyx
        · exact h
      have hp := List.perm_cons_erase hyt
      have hlen : (t.erase y).length = t.length - 1 := List.length_erase_of_mem hyt
      have htl : 0 < t.length := List.length_pos_of_mem hyt
      simp only [List.length_cons] at hl
      have hsub : ∀ z, z ∈ t.erase y → z ∈ t := fun z hz => List.mem_of_mem_erase hz
      have hnt : (t.erase y).Nodup := hn.2.erase y
      have hzy : ∀ z, z ∈ t.erase y → z ≠ y := by
        intro z hz e
        subst e
        exact (List.Nodup.not_mem_erase hn.2) hz
      have hzx : ∀ z, z ∈ t.erase y → z ≠ x := by
        intro z hz e
        subst e
        exact hn.1 (hsub _ hz)
      have := ih (t.erase y) (by omega) hnt (fun z hz => ?_) (fun a ha b hb d hd => hu a (List.mem_cons_of_mem _ (hsub a ha)) b (List.mem_cons_of_mem _ (hsub b hb)) d (List.mem_cons_of_mem _ (hsub d hd)))
      · have e : (x :: t).length / 2 = (t.erase y).length / 2 + 1 := by rw [hlen, List.length_cons]; omega
        rw [e, Nat.pow_succ, prodN, prodN_perm hp, prodN, ← Nat.mul_assoc, Nat.mul_mod, hxy, this, ← Nat.mul_mod, Nat.mul_comm]
      · obtain ⟨z', hz', hne, hzz⟩ := hc z (List.mem_cons_of_mem _ (hsub z hz))
        refine ⟨z', ?_, hne, hzz⟩
        have n1 : z' ≠ x := by
          intro e
          subst e
          rw [Nat.mul_comm] at hzz
          exact hzy z hz (hu z' List.mem_cons_self z (List.mem_cons_of_mem _ (hsub z hz)) y hy hzz hxy)
        have n2 : z' ≠ y := by
          intro e
          subst e
          rw [Nat.mul_comm] at hzz hxy
          exact hzx z hz (hu z' hy z (List.mem_cons_of_mem _ (hsub z hz)) x List.mem_cons_self hzz hxy)
        rcases List.mem_cons.1 hz' with h | h
        · exact absurd h n1
        · exact (List.mem_erase_of_ne n2).2 h

/-- Division modulo a prime. -/
theorem IsP.quot {p x c : Nat} (h : IsP p) (hx : x % p ≠ 0) (hc : c % p ≠ 0) : ∃ y, 1 ≤ y ∧ y ≤ p - 1 ∧ x * y % p = c % p := by
  have hp := h.1
  have hm : ∀ y, 1 ≤ y → y ≤ p - 1 → 1 ≤ x * y % p ∧ x * y % p ≤ p - 1 := by
    intro y h1 h2
    have h3 : x * y % p ≠ 0 := h.mul hx (by rw [Nat.mod_eq_of_lt (by omega)]; omega)
    have := Nat.mod_lt (x * y) (show p > 0 by omega)
    omega
  have hi : ∀ y z, 1 ≤ y → y ≤ p - 1 → 1 ≤ z → z ≤ p - 1 → x * y % p = x * z % p → y = z := by
    have key : ∀ y z, y ≤ z → z ≤ p - 1 → x * y % p = x * z % p → y = z := by
      intro y z h1 h2 e
      have := Nat.sub_mod_eq_zero_of_mod_eq e.symm
      rw [← Nat.mul_sub] at this
      rcases Nat.eq_or_lt_of_le h1 with h3 | h3
      · exact h3
      · exact absurd this (h.mul hx (by rw [Nat.mod_eq_of_lt (by omega)]; omega))
    intro y z h1 h2 h3 h4 e
    rcases Nat.le_total y z with h5 | h5
    · exact key y z h5 h4 e
    · exact (key z y h5 h2 e.symm).symm
  have hperm : ((upTo (p - 1)).map (fun y => x * y % p)).Perm (upTo (p - 1)) := by
    refine perm_of (map_nodup (upTo_nodup _) (fun a ha b hb => ?_)) (fun y hy => ?_) (by simp)
    · rw [mem_upTo] at ha hb
      exact hi a b ha.1 ha.2 hb.1 hb.2
    · obtain ⟨z, hz, rfl⟩ := List.mem_map.1 hy
      rw [mem_upTo] at hz ⊢
      exact hm z hz.1 hz.2
  have hcm : c % p ∈ upTo (p - 1) := by
    rw [mem_upTo]
    have := Nat.mod_lt c (show p > 0 by omega)
    omega
  obtain ⟨y, hy, e⟩ := List.mem_map.1 (hperm.mem_iff.2 hcm)
  rw [mem_upTo] at hy
  exact ⟨y, hy.1, hy.2, e⟩
theorem IsP.cancel {p x y z : Nat} (h : IsP p) (hx : x % p ≠ 0) (hy : y ≤ p - 1) (hz : z ≤ p - 1) (e : x * y % p = x * z % p) : y = z := by
  have hp := h.1
  have key : ∀ y z, y ≤ z → z ≤ p - 1 → x * y % p = x * z % p → y = z := by
    intro y z h1 h2 e
    have := Nat.sub_mod_eq_zero_of_mod_eq e.symm
    rw [← Nat.mul_sub] at this
    rcases Nat.eq_or_lt_of_le h1 with h3 | h3
    · exact h3
    · exact absurd this (h.mul hx (by rw [Nat.mod_eq_of_lt (by omega)]; omega))
  rcases Nat.le_total y z with h5 | h5
  · exact key y z h5 hz e
  · exact (key z y h5 hy e.symm).symm

theorem mod_self_of {p x : Nat} (h1 : 1 ≤ x) (h2 : x ≤ p - 1) : x % p ≠ 0 := by
  rw [Nat.mod_eq_of_lt (by omega)]
  omega

/-- Numbers without a square root: the product of 1 .. p - 1 is a power. -/
theorem nonres_prod {p a : Nat} (h : IsP p) (ha : a % p ≠ 0) (hn : ∀ x, 1 ≤ x → x ≤ p - 1 → x * x % p ≠ a % p) : prodN (upTo (p - 1)) % p = a ^ ((p - 1) / 2) % p := by
  have := pair_prod p a (p - 1) (upTo (p - 1)) (by rw [upTo_length]; exact Nat.le_refl _) (upTo_nodup _) (fun x hx => ?_) (fun x hx y hy z hz e1 e2 => ?_)
  · rwa [upTo_length] at this
  · rw [mem_upTo] at hx
    obtain ⟨y, h1, h2, e⟩ := h.quot (mod_self_of hx.1 hx.2) ha
    refine ⟨y, mem_upTo.2 ⟨h1, h2⟩, ?_, e⟩
    rintro rfl
    exact hn y h1 h2 e
  · rw [mem_upTo] at hx hy hz
    exact h.cancel (mod_self_of hx.1 hx.2) hy.2 hz.2 (e1.trans e2.symm)

/-- Wilson. -/
theorem wilson {p : Nat} (h : IsP p) (h3 : 3 ≤ p) : prodN (upTo (p - 1)) % p = p - 1 := by
  have hcons : upTo (p - 1) = 1 :: (upTo (p - 2)).tail.append [p - 1] := by
    have e1 : p - 1 = (p - 2) + 1 := by omega
    rw [e1, upTo_succ]
    have e2 : p - 2 = (p - 3) + 1 := by omega
    have : ∀ k, upTo (k + 1) = 1 :: (upTo (k + 1)).tail := by
      intro k
      unfold upTo
      rw [List.range_succ_eq_map]
      rfl
    rw [e2]
    conv => lhs; rw [this]
    rfl
  have hmem : ∀ x, x ∈ (upTo (p - 2)).tail ↔ 2 ≤ x ∧ x ≤ p - 2 := by
    intro x
    have hnd := upTo_nodup (p - 1)
    rw [hcons, List.nodup_cons] at hnd
    have hm := mem_upTo (k := p - 1) (x := x)
    rw [hcons] at hm
    have hap : ∀ y, y ∈ (upTo (p - 2)).tail.append [p - 1] ↔ y ∈ (upTo (p - 2)).tail ∨ y = p - 1 := by
      intro y
      show y ∈ (upTo (p - 2)).tail ++ [p - 1] ↔ _
      rw [List.mem_append, List.mem_singleton]
    rw [List.mem_cons, hap] at hm
    have hn1 : ¬ 1 ∈ (upTo (p - 2)).tail := fun hh => hnd.1 ((hap 1).2 (.inl hh))
    have hle : ∀ y, y ∈ (upTo (p - 2)).tail → y ≤ p - 2 := fun y hy => (mem_upTo.1 (List.mem_of_mem_tail hy)).2
    constructor
    · intro hx
      have h5 := hm.1 (.inr (.inl hx))
      have := hle x hx
      refine ⟨?_, this⟩
      rcases Nat.eq_or_lt_of_le h5.1 with e | e
      · exact absurd (e ▸ hx) hn1
      · exact e
    · intro hx
      rcases hm.2 ⟨by omega, by omega⟩ with e | e | e
      · omega
      · exact e
      · omega
  have hnt : (upTo (p - 2)).tail.Nodup := by
    have := upTo_nodup (p - 2)
    exact List.Sublist.nodup (List.tail_sublist _) this
  have hpp := pair_prod p 1 _ (upTo (p - 2)).tail (Nat.le_refl _) hnt (fun x hx => ?_) (fun x hx y hy z hz e1 e2 => ?_)
  · rw [Nat.one_pow, Nat.mod_eq_of_lt (show 1 < p by omega)] at hpp
    rw [hcons, prodN, Nat.one_mul]
    have hap : prodN ((upTo (p - 2)).tail.append [p - 1]) = prodN ((p - 1) :: (upTo (p - 2)).tail) := prodN_perm (List.perm_append_comm (l₁ := (upTo (p - 2)).tail) (l₂ := [p - 1]))
    rw [hap, prodN, Nat.mul_mod, hpp, Nat.mul_one, Nat.mod_mod, Nat.mod_eq_of_lt (by omega)]
  · rw [hmem] at hx
    have hx0 : x % p ≠ 0 := mod_self_of (by omega) (by omega)
    obtain ⟨y, h1, h2, e⟩ := h.quot hx0 (c := 1) (by rw [Nat.mod_eq_of_lt (by omega)]; omega)
    rw [Nat.mod_eq_of_lt (show 1 < p by omega)] at e
    have hy1 : y ≠ 1 := by
      rintro rfl
      rw [Nat.mul_one, Nat.mod_eq_of_lt (by omega)] at e
      omega
    have hyp : y ≠ p - 1 := by
      rintro rfl
      have : x * (p - 1) % p = p - x := by
        have e5 : x * (p - 1) = p * (x - 1) + (p - x) := by
          obtain ⟨u, rfl⟩ : ∃ u, x = u + 1 := ⟨x - 1, by omega⟩
          obtain ⟨v, rfl⟩ : ∃ v, p = v + 1 := ⟨p - 1, by omega⟩
          have : (u + 1) * v = u * v + v := by rw [Nat.add_mul, Nat.one_mul]
          have : (v + 1) * u = v * u + u := by rw [Nat.add_mul, Nat.one_mul]
          have := Nat.mul_comm u v
          simp only [Nat.add_sub_cancel]
          omega
        rw [e5, Nat.mul_add_mod, Nat.mod_eq_of_lt (by omega)]
      omega
    have hyx : y ≠ x := by
      rintro rfl
      have e6 : (y - 1) * (y + 1) % p = 0 := by
        have e7 : y * y = (y - 1) * (y + 1) + 1 := by
          obtain ⟨u, rfl⟩ : ∃ u, y = u + 1 := ⟨y - 1, by omega⟩
          simp only [Nat.add_sub_cancel, Nat.add_mul, Nat.mul_add, Nat.one_mul, Nat.mul_one]
          omega
        have := Nat.sub_mod_eq_zero_of_mod_eq (m := y * y) (n := 1) (k := p) (by rw [e, Nat.mod_eq_of_lt (show 1 < p by omega)])
        rw [e7, Nat.add_sub_cancel] at this
        exact this
      exact h.mul (x := y - 1) (y := y + 1) (mod_self_of (by omega) (by omega)) (mod_self_of (by omega) (by omega)) e6
    exact ⟨y, (hmem y).2 ⟨by omega, by omega⟩, hyx, by rw [e, Nat.mod_eq_of_lt (show 1 < p by omega)]⟩
  · rw [hmem] at hx hy hz
    exact h.cancel (mod_self_of (by omega) (by omega)) (by omega) (by omega) (e1.trans e2.symm)

theorem prodI_dvd {f g : Nat → Int} {n : Int} {k : Nat} (h : ∀ x, 1 ≤ x → x ≤ k → n ∣ f x - g x) : n ∣ prodI f k - prodI g k := by
  induction k with
  | zero => exact ⟨0, by simp [prodI]⟩
  | succ k ih =>
    rw [prodI, prodI]
    have h1 := ih (fun x h1 h2 => h x h1 (by omega))
    have h2 := h (k + 1) (by omega) (by omega)
    have e : prodI f k * f (k + 1) - prodI g k * g (k + 1) = (prodI f k - prodI g k) * f (k + 1) + prodI g k * (f (k + 1) - g (k + 1)) := by
      rw [Int.sub_mul, Int.mul_sub]; omega
    rw [e]
    exact Int.dvd_add (Int.dvd_trans h1 (Int.dvd_mul_right _ _)) (Int.dvd_trans h2 (Int.dvd_mul_left _ _))
theorem prodI_pow (a : Nat) (k : Nat) : prodI (fun x => ((a * x : Nat) : Int)) k = ((a ^ k : Nat) : Int) * prodI (fun x => (x : Int)) k := by
  induction k with
  | zero => simp [prodI]
  | succ k ih =>
    rw [prodI, prodI, ih, Nat.pow_succ]
    simp only [Int.natCast_mul]
    simp only [Int.mul_assoc, Int.mul_left_comm (prodI (fun x => (x : Int)) k)]
theorem IsP.dvd_mul {p : Nat} (h : IsP p) {x y : Int} (hd : (p : Int) ∣ x * y) : (p : Int) ∣ x ∨ (p : Int) ∣ y := by
  rw [← Int.natAbs_dvd_natAbs, Int.natAbs_mul, Int.natAbs_natCast] at hd
  by_cases hx : x.natAbs % p = 0
  · left
    rw [← Int.natAbs_dvd_natAbs, Int.natAbs_natCast]
    exact Nat.dvd_of_mod_eq_zero hx
  · right
    rw [← Int.natAbs_dvd_natAbs, Int.natAbs_natCast]
    exact Nat.Coprime.dvd_of_dvd_mul_left (by rw [Nat.Coprime, Nat.gcd_comm]; exact h.gcd hx) hd
theorem IsP.fact {p : Nat} (h : IsP p) : ∀ k, k ≤ p - 1 → ¬ (p : Int) ∣ prodI (fun x => (x : Int)) k := by
  intro k
  have hp := h.1
  induction k with
  | zero =>
    intro _ hd
    have := dvd_small (n := p) hd (by simp [prodI]; omega) (by simp [prodI]; omega)
    simp [prodI] at this
  | succ k ih =>
    intro hk hd
    rw [prodI] at hd
    rcases h.dvd_mul hd with h1 | h1
    · exact ih (by omega) h1
    · have := dvd_small (n := p) h1 (by omega) (by omega)
      omega

/-- Euler. -/
theorem euler {p a : Nat} (h : IsP p) (ho : p % 2 = 1) (ha : a % p ≠ 0) : (p : Int) ∣ 1 - G a p * ((a ^ ((p - 1) / 2) : Nat) : Int) := by
  have hg := h.gcd ha
  have h1 : (p : Int) ∣ prodI (fun x => (av a p x : Int)) ((p - 1) / 2) - prodI (fun x => sg a p x * ((a * x : Nat) : Int)) ((p - 1) / 2) :=
    prodI_dvd (fun x h1 h2 => (Sg_of (a := a) ho (cop_mod hg (half_mod h1 h2).2)).2.2.2)
  rw [prodI_perm (f := fun x => (x : Int)) (g := av a p) (fun x h1 h2 => av_range ho hg h1 h2) (fun x y h1 h2 h3 h4 e => av_inj ho hg h1 h2 h3 h4 e), prodI_mul, prodI_pow] at h1
  have e : prodI (fun x => (x : Int)) ((p - 1) / 2) - prodI (fun x => sg a p x) ((p - 1) / 2) * (((a ^ ((p - 1) / 2) : Nat) : Int) * prodI (fun x => (x : Int)) ((p - 1) / 2)) = prodI (fun x => (x : Int)) ((p - 1) / 2) * (1 - G a p * ((a ^ ((p - 1) / 2) : Nat) : Int)) := by
    unfold G
    rw [Int.mul_sub, Int.mul_one, ← Int.mul_assoc, Int.mul_comm (prodI (fun x => (x : Int)) ((p - 1) / 2))]
  rw [e] at h1
  rcases h.dvd_mul h1 with h2 | h2
  · exact absurd h2 (h.fact _ (by omega))
  · exact h2

theorem G_square {p a x : Nat} (h : IsP p) (ho : p % 2 = 1) (ha : a % p ≠ 0) (hx : x * x % p = a % p) : G a p = 1 := by
  have hx0 : x % p ≠ 0 := by
    intro e
    apply ha
    rw [← hx, Nat.mul_mod, e, Nat.zero_mul, Nat.zero_mod]
  rw [← G_mod, ← hx, G_mod, G_mul ho (h.gcd hx0) (h.gcd hx0), G_sq]
theorem G_nonsquare {p a : Nat} (h : IsP p) (ho : p % 2 = 1) (ha : a % p ≠ 0) (hn : ∀ x, 1 ≤ x → x ≤ p - 1 → x * x % p ≠ a % p) : G a p = -1 := by
  have h3 : 3 ≤ p := by have := h.1; omega
  have e1 := nonres_prod h ha hn
  rw [wilson h h3] at e1
  have e2 := euler h ho ha
  have hd : (p : Int) ∣ ((a ^ ((p - 1) / 2) : Nat) : Int) + 1 := by
    have := Nat.div_add_mod (a ^ ((p - 1) / 2)) p
    rw [← e1] at this
    refine ⟨(a ^ ((p - 1) / 2) / p : Nat) + 1, ?_⟩
    rw [Int.mul_add, ← Int.natCast_mul]
    omega
  rcases G_one_or a p with hG | hG
  · exfalso
    rw [hG, Int.one_mul] at e2
    have := Int.dvd_add hd e2
    rw [show ((a ^ ((p - 1) / 2) : Nat) : Int) + 1 + (1 - ((a ^ ((p - 1) / 2) : Nat) : Int)) = 2 from by omega] at this
    have := dvd_small (n := p) this (by omega) (by omega)
    omega
  · exact hG

/-- The Jacobi symbol. -/
def J (a n : Nat) : Int := if Nat.gcd a n = 1 then G a n else 0
theorem J_pos {a n : Nat} (h : Nat.gcd a n = 1) : J a n = G a n := if_pos h
theorem J_neg {a n : Nat} (h : Nat.gcd a n ≠ 1) : J a n = 0 := if_neg h
theorem J_right {a i j : Nat} (hi : i % 2 = 1) (hj : j % 2 = 1) : J a (i * j) = J a i * J a j := by
  unfold J
  by_cases h1 : Nat.gcd a i = 1
  · by_cases h2 : Nat.gcd a j = 1
    · rw [if_pos h1, if_pos h2, if_pos (Nat.Coprime.mul_right h1 h2), G_right hi hj h1 h2]
    · rw [if_neg h2, if_neg (fun h => h2 (Nat.Coprime.coprime_mul_left_right h)), Int.mul_zero]
  · rw [if_neg h1, if_neg (fun h => h1 (Nat.Coprime.coprime_mul_right_right h)), Int.zero_mul]
theorem J_one (a : Nat) : J a 1 = 1 := by
  unfold J
  rw [if_pos (Nat.gcd_one_right a)]
  rfl
end Go.Proofs.YtmiafkbjmkaebaaGreat.QR
