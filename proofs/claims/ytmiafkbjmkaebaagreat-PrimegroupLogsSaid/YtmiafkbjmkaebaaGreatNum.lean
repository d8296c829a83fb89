/-
  Plain mathematics about numbers as strings of bytes (the most significant byte first) and as lists of digits (the least significant digit first). No program is named here. Plain mathematics of decimal digits.
-/
namespace Go.Proofs.YtmiafkbjmkaebaaGreat.Num

/-- The number of a string of bytes, the most significant byte first. -/
def bval (l : List UInt8) : Nat := l.foldl (fun a b => a * 256 + b.toNat) 0

theorem foldl_bval (l : List UInt8) : ∀ a : Nat, l.foldl (fun a b => a * 256 + b.toNat) a = a * 256 ^ l.length + bval l := by
  induction l with
  | nil => intro a; simp [bval]
  | cons b l ih =>
    intro a
    have h1 := ih (a * 256 + b.toNat)
    have h2 := ih (0 * 256 + b.toNat)
    simp only [bval, List.foldl_cons, List.length_cons]
    simp only [bval] at h1 h2
    rw [h1, h2, Nat.pow_succ]
    grind

theorem bval_nil : bval [] = 0 := rfl
theorem bval_cons (b : UInt8) (l : List UInt8) : bval (b :: l) = b.toNat * 256 ^ l.length + bval l := by
  have := foldl_bval l (0 * 256 + b.toNat)
  simp only [bval, List.foldl_cons] at *
  rw [this]; simp
theorem bval_snoc (l : List UInt8) (b : UInt8) : bval (l ++ [b]) = bval l * 256 + b.toNat := by
  simp [bval, List.foldl_append]
theorem bval_append (l m : List UInt8) : bval (l ++ m) = bval l * 256 ^ m.length + bval m := by
  rw [show bval (l ++ m) = m.foldl (fun a b => a * 256 + b.toNat) (bval l) from by simp [bval, List.foldl_append], foldl_bval]
theorem byte_lt (b : UInt8) : b.toNat < 256 := b.toNat_lt
theorem bval_lt (l : List UInt8) : bval l < 256 ^ l.length := by
  induction l with
  | nil => simp [bval]
  | cons b l ih =>
    rw [bval_cons, List.length_cons, Nat.pow_succ]
    have hb := byte_lt b
    have : b.toNat * 256 ^ l.length ≤ 255 * 256 ^ l.length := Nat.mul_le_mul_right _ (by omega)
    omega

/-- The bytes of a number, the most significant one first, without leading zeros. -/
def cb (n : Nat) : List UInt8 := if _h : n = 0 then [] else cb (n / 256) ++ [UInt8.ofNat n]
termination_by n
decreasing_by omega

theorem cb_zero : cb 0 = [] := by rw [cb]; simp
theorem cb_pos {n : Nat} (h : n ≠ 0) : cb n = cb (n / 256) ++ [UInt8.ofNat n] := by rw [cb]; simp [h]

theorem bval_cb (n : Nat) : bval (cb n) = n := by
  induction n using Nat.strongRecOn with
  | ind n ih =>
    by_cases h : n = 0
    · subst h; rw [cb_zero]; rfl
    · rw [cb_pos h, bval_snoc, ih _ (by omega), UInt8.toNat_ofNat']
      show n / 256 * 256 + n % 256 = n
      omega

theorem cb_eq_nil {n : Nat} : cb n = [] ↔ n = 0 := by
  constructor
  · intro h; have := bval_cb n; rw [h] at this; simpa [bval] using this.symm
  · rintro rfl; exact cb_zero

theorem cb_head (n : Nat) : (cb n).head? ≠ some 0 := by
  induction n using Nat.strongRecOn with
  | ind n ih =>
    by_cases h : n = 0
    · subst h; rw [cb_zero]; simp
    · rw [cb_pos h]
      by_cases h2 : n / 256 = 0
      · rw [h2, cb_zero]
        simp only [List.nil_append, List.head?_cons, ne_eq, Option.some.injEq]
        intro e
        have : (UInt8.ofNat n).toNat = 0 := by rw [e]; rfl
        rw [UInt8.toNat_ofNat'] at this
        have : n % 256 = 0 := this
        omega
      · have hne : cb (n / 256) ≠ [] := fun e => h2 (cb_eq_nil.1 e)
        have := ih (n / 256) (by omega)
        cases hcb : cb (n / 256) with
        | nil => exact absurd hcb hne
        | cons x m => rw [hcb] at this; simpa using this

/-- A list of bytes without leading zero. -/
def Can (l : List UInt8) : Prop := l.head? ≠ some 0

theorem cb_of_can : ∀ (k : Nat) (l : List UInt8), l.length = k → Can l → cb (bval l) = l := by
  intro k
  induction k with
  | zero =>
    intro l hl _
    have : l = [] := List.length_eq_zero_iff.1 hl
    subst this; rw [bval_nil, cb_zero]
  | succ k ih =>
    intro l hl hc
    obtain ⟨m, b, rfl⟩ : ∃ m b, l = m ++ [b] := by
      have hne : l ≠ [] := by intro e; subst e; simp at hl
      exact ⟨l.dropLast, l.getLast hne, (List.dropLast_concat_getLast hne).symm⟩
    have hm : m.length = k := by simpa using hl
    rw [bval_snoc]
    have hb := byte_lt b
    have hcm : Can m := by
      unfold Can at *
      cases m with
      | nil => simp
      | cons x m => simpa using hc
    have hne0 : bval m * 256 + b.toNat ≠ 0 := by
      intro e
      have hm0 : bval m = 0 := by omega
      have hb0 : b.toNat = 0 := by omega
      have hmn : m = [] := by
        have := ih m hm hcm
        rw [hm0, cb_zero] at this
        exact this.symm
      subst hmn
      apply hc
      simp
      exact UInt8.toNat_inj.1 (by rw [hb0]; rfl)
    rw [cb_pos hne0, show (bval m * 256 + b.toNat) / 256 = bval m from by omega, ih m hm hcm]
    congr 2
    apply UInt8.toNat_inj.1
    rw [UInt8.toNat_ofNat']
    show (bval m * 256 + b.toNat) % 256 = b.toNat
    omega

theorem can_cb (n : Nat) : Can (cb n) := cb_head n
theorem cb_bval {l : List UInt8} (h : Can l) : cb (bval l) = l := cb_of_can _ l rfl h
theorem cb_inj {a b : Nat} (h : cb a = cb b) : a = b := by rw [← bval_cb a, h, bval_cb]

theorem cb_length_le {n k : Nat} : (cb n).length ≤ k ↔ n < 256 ^ k := by
  constructor
  · intro h
    have := bval_lt (cb n)
    rw [bval_cb] at this
    exact Nat.lt_of_lt_of_le this (Nat.pow_le_pow_right (by decide) h)
  · intro h
    apply Decidable.byContradiction
    intro hk
    have hk : k < (cb n).length := Nat.lt_of_not_le hk
    have hc := can_cb n
    have hv := bval_cb n
    cases hcb : cb n with
    | nil => rw [hcb] at hk; simp at hk
    | cons b l =>
      rw [hcb] at hc hv hk
      rw [bval_cons] at hv
      have hb : b.toNat ≠ 0 := by
        intro e
        apply hc
        simp
        exact UInt8.toNat_inj.1 (by rw [e]; rfl)
      have h1 : 256 ^ k ≤ 256 ^ l.length := Nat.pow_le_pow_right (by decide) (by simp at hk; omega)
      have h2 : 1 * 256 ^ l.length ≤ b.toNat * 256 ^ l.length := Nat.mul_le_mul_right _ (by omega)
      omega

/-- Leading zeros stripped. -/
def strip (l : List UInt8) : List UInt8 := l.dropWhile (· == 0)
theorem bval_strip (l : List UInt8) : bval (strip l) = bval l := by
  induction l with
  | nil => rfl
  | cons b l ih =>
    unfold strip at *
    rw [List.dropWhile_cons]
    by_cases h : b = 0
    · subst h
      simp only [beq_self_eq_true, if_true, bval_cons]
      rw [ih]; simp
    · simp [h]
theorem can_strip (l : List UInt8) : Can (strip l) := by
  induction l with
  | nil => simp [Can, strip]
  | cons b l ih =>
    unfold strip at *
    rw [List.dropWhile_cons]
    by_cases h : b = 0
    · subst h; simpa using ih
    · simp [h, Can]
theorem strip_eq (l : List UInt8) : strip l = cb (bval l) := by rw [← bval_strip l, cb_bval (can_strip l)]

/-- What a tail of bytes without a leading zero is, if all before it are zeros. -/
theorem drop_eq_cb (l : List UInt8) (k : Nat) (h0 : ∀ j, j < k → l[j]? = some 0) (hc : l[k]? ≠ some 0) : l.drop k = cb (bval l) := by
  have hb : bval l = bval (l.drop k) := by
    induction k generalizing l with
    | zero => simp
    | succ k ih =>
      cases l with
      | nil => simp
      | cons b l =>
        have hb0 := h0 0 (by omega)
        simp at hb0
        subst hb0
        rw [bval_cons, List.drop_succ_cons, ← ih l (fun j hj => by simpa using h0 (j + 1) (by omega)) (by simpa using hc)]
        simp
  rw [hb, cb_bval]
  unfold Can
  rw [List.head?_drop]
  exact hc

/-- Order of canonical strings. -/
theorem cb_lt_of_length {a b : Nat} (h : (cb a).length < (cb b).length) : a < b := by
  have h1 : a < 256 ^ (cb a).length := cb_length_le.1 (Nat.le_refl _)
  have h2 : ¬ (cb b).length ≤ (cb b).length - 1 := by omega
  rw [cb_length_le] at h2
  have h3 : 256 ^ (cb a).length ≤ 256 ^ ((cb b).length - 1) := Nat.pow_le_pow_right (by decide) (by omega)
  omega

/-- The digits to a base, the least significant one first. -/
def dv (B : Nat) : List Nat → Nat
  | [] => 0
  | d :: ds => d + B * dv B ds

theorem dv_nil (B : Nat) : dv B [] = 0 := rfl
theorem dv_cons (B d : Nat) (ds : List Nat) : dv B (d :: ds) = d + B * dv B ds := rfl
theorem dv_append (B : Nat) (xs ys : List Nat) : dv B (xs ++ ys) = dv B xs + B ^ xs.length * dv B ys := by
  induction xs with
  | nil => simp [dv]
  | cons x xs ih => simp only [List.cons_append, dv, ih, List.length_cons, Nat.pow_succ]; grind
theorem dv_snoc (B : Nat) (xs : List Nat) (d : Nat) : dv B (xs ++ [d]) = dv B xs + B ^ xs.length * d := by
  rw [dv_append]; simp [dv]
theorem dv_lt {B : Nat} (xs : List Nat) (h : ∀ d ∈ xs, d < B) : dv B xs < B ^ xs.length := by
  induction xs with
  | nil => simp [dv]
  | cons x xs ih =>
    have h1 := h x (by simp)
    have h2 := ih (fun d hd => h d (by simp [hd]))
    simp only [dv, List.length_cons, Nat.pow_succ]
    have h3 : B * (dv B xs + 1) ≤ B * B ^ xs.length := Nat.mul_le_mul_left B h2
    have h4 : B * (dv B xs + 1) = B * dv B xs + B := by grind
    have h5 : B ^ xs.length * B = B * B ^ xs.length := Nat.mul_comm _ _
    omega
theorem dv_replicate (B n : Nat) : dv B (List.replicate n 0) = 0 := by
  induction n with
  | zero => rfl
  | succ n ih => simp [List.replicate_succ, dv, ih]
theorem take_snoc {α} (xs : List α) (k : Nat) (h : k < xs.length) : xs.take (k + 1) = xs.take k ++ [xs[k]] := by
  rw [List.take_succ_eq_append_getElem h]
theorem dv_take_succ (B : Nat) (xs : List Nat) (k : Nat) (h : k < xs.length) : dv B (xs.take (k + 1)) = dv B (xs.take k) + B ^ k * xs.getD k 0 := by
  rw [take_snoc xs k h, dv_snoc, List.length_take, Nat.min_eq_left (by omega)]
  simp [List.getD_eq_getElem?_getD, List.getElem?_eq_getElem h]
theorem dv_split (B : Nat) (xs : List Nat) (k : Nat) (h : k ≤ xs.length) : dv B xs = dv B (xs.take k) + B ^ k * dv B (xs.drop k) := by
  have := dv_append B (xs.take k) (xs.drop k)
  rw [List.take_append_drop, List.length_take, Nat.min_eq_left h] at this
  exact this
theorem dv_set_next (B : Nat) (xs : List Nat) (k d : Nat) (h : k < xs.length) : dv B ((xs.set k d).take (k + 1)) = dv B (xs.take k) + B ^ k * d := by
  rw [take_snoc _ _ (by simpa using h), dv_snoc]
  simp [List.take_set_of_le, Nat.min_eq_left (Nat.le_of_lt h)]
theorem dv_inj {B : Nat} (hB : 0 < B) : ∀ {xs ys : List Nat}, (∀ d ∈ xs, d < B) → (∀ d ∈ ys, d < B) → xs.length = ys.length → dv B xs = dv B ys → xs = ys
  | [], [], _, _, _, _ => rfl
  | x :: xs, y :: ys, hx, hy, hl, he => by
    simp only [dv] at he
    have h1 := hx x (by simp)
    have h2 := hy y (by simp)
    have h3 : x = y := by
      have := congrArg (· % B) he
      simpa [Nat.add_mul_mod_self_left, Nat.mod_eq_of_lt h1, Nat.mod_eq_of_lt h2] using this
    subst h3
    have h4 : dv B xs = dv B ys := by
      have : B * dv B xs = B * dv B ys := by omega
      exact Nat.eq_of_mul_eq_mul_left hB this
    rw [dv_inj hB (fun d hd => hx d (by simp [hd])) (fun d hd => hy d (by simp [hd])) (by simpa using hl) h4]

/-- The byte with the weight 256^j of a canonical string. -/
theorem cb_get (n j : Nat) (h : j < (cb n).length) : ((cb n)[(cb n).length - 1 - j]'(by omega)).toNat = n / 256 ^ j % 256 := by
  induction j generalizing n with
  | zero =>
    have hn : n ≠ 0 := by rintro rfl; rw [cb_zero] at h; simp at h
    have e := cb_pos hn
    have : (cb n)[(cb n).length - 1 - 0]'(by omega) = UInt8.ofNat n := by
      simp only [e]
      rw [List.getElem_append_right (by simp)]
      simp
    rw [this, UInt8.toNat_ofNat']; simp
  | succ j ih =>
    have hn : n ≠ 0 := by rintro rfl; rw [cb_zero] at h; simp at h
    have e := cb_pos hn
    have hl : (cb n).length = (cb (n / 256)).length + 1 := by rw [e]; simp
    have : (cb n)[(cb n).length - 1 - (j + 1)]'(by omega) = (cb (n / 256))[(cb (n / 256)).length - 1 - j]'(by omega) := by
      have h1 : (cb n)[(cb n).length - 1 - (j + 1)]? = (cb (n / 256))[(cb (n / 256)).length - 1 - j]? := by
        rw [hl]
        conv => lhs; rw [e]
        rw [List.getElem?_append_left (by omega)]
        congr 1
        omega
      rw [List.getElem?_eq_getElem (by omega), List.getElem?_eq_getElem (by omega)] at h1
      exact Option.some.inj h1
    rw [this, ih (n / 256) (by omega), Nat.div_div_eq_div_mul, Nat.pow_succ, Nat.mul_comm 256]
theorem cb_pow_le {n : Nat} (h : n ≠ 0) : 256 ^ ((cb n).length - 1) ≤ n := by
  apply Decidable.byContradiction
  intro hc
  have h1 : (cb n).length ≤ (cb n).length - 1 := cb_length_le.2 (by omega)
  have h2 : cb n ≠ [] := fun e => h (cb_eq_nil.1 e)
  have := List.length_pos_iff.2 h2
  omega
theorem cb_lt_pow (n : Nat) : n < 256 ^ (cb n).length := cb_length_le.1 (Nat.le_refl _)

theorem dv_take_next (B : Nat) (xs : List Nat) (k : Nat) : dv B (xs.take (k + 1)) = dv B (xs.take k) + B ^ k * xs.getD k 0 := by
  rcases Nat.lt_or_ge k xs.length with h | h
  · exact dv_take_succ B xs k h
  · rw [List.take_of_length_le (by omega), List.take_of_length_le h, List.getD_eq_getElem?_getD, List.getElem?_eq_none h]
    simp
theorem dv_take_all (B : Nat) (xs : List Nat) (k : Nat) (h : xs.length ≤ k) : dv B (xs.take k) = dv B xs := by rw [List.take_of_length_le h]

theorem byte_of_sum (d r k : Nat) (hk : k < 4) : (d + 4294967296 * r) / 256 ^ k % 256 = d / 256 ^ k % 256 := by
  have : k = 0 ∨ k = 1 ∨ k = 2 ∨ k = 3 := by omega
  rcases this with rfl | rfl | rfl | rfl <;> simp <;> omega
theorem dv_byte (xs : List Nat) (hx : ∀ d ∈ xs, d < 4294967296) : ∀ k, dv 4294967296 xs / 256 ^ k % 256 = xs.getD (k / 4) 0 / 256 ^ (k % 4) % 256 := by
  induction xs with
  | nil => intro k; simp [dv]
  | cons d ds ih =>
    intro k
    rw [dv_cons]
    by_cases hk : k < 4
    · rw [byte_of_sum d _ k hk, show k / 4 = 0 from by omega, show k % 4 = k from by omega]
      simp
    · obtain ⟨j, rfl⟩ : ∃ j, k = 4 + j := ⟨k - 4, by omega⟩
      have hd := hx d (by simp)
      rw [Nat.pow_add, ← Nat.div_div_eq_div_mul, show (256 : Nat) ^ 4 = 4294967296 from by decide, Nat.add_mul_div_left _ _ (by decide), Nat.div_eq_of_lt hd, Nat.zero_add,
        ih (fun x hx' => hx x (by simp [hx'])) j, show (4 + j) / 4 = j / 4 + 1 from by omega, show (4 + j) % 4 = j % 4 from by omega]
      simp
theorem div_byte (V j : Nat) : V / 256 ^ j = V / 256 ^ (j + 1) * 256 + V / 256 ^ j % 256 := by
  rw [Nat.pow_succ, ← Nat.div_div_eq_div_mul]
  omega
/-- The bytes of a number up to the one with the weight 256^j, if the next one is added. -/
theorem cb_next {V j b : Nat} (hb : b = V / 256 ^ j % 256) (h : V / 256 ^ j ≠ 0) : cb (V / 256 ^ j) = cb (V / 256 ^ (j + 1)) ++ [UInt8.ofNat b] := by
  have hd := div_byte V j
  have hl : b < 256 := by omega
  rw [cb_pos h]
  have e1 : V / 256 ^ j / 256 = V / 256 ^ (j + 1) := by omega
  rw [e1]
  congr 2
  apply UInt8.toNat_inj.1
  rw [UInt8.toNat_ofNat', UInt8.toNat_ofNat']
  omega

theorem dv_set_add (B : Nat) : ∀ (xs : List Nat) (k d : Nat), k < xs.length → dv B (xs.set k (xs.getD k 0 + d)) = dv B xs + B ^ k * d
  | [], k, d, h => by simp at h
  | x :: xs, 0, d, _ => by simp [dv]; omega
  | x :: xs, k + 1, d, h => by
    have ih := dv_set_add B xs k d (by simpa using h)
    simp only [List.set_cons_succ, dv_cons, List.getD_cons_succ, ih, Nat.pow_succ, Nat.mul_add]
    have : B * (B ^ k * d) = B ^ k * B * d := by rw [← Nat.mul_assoc, Nat.mul_comm B]
    omega
theorem dv_ge (B : Nat) : ∀ (xs : List Nat) (k : Nat), B ^ k * xs.getD k 0 ≤ dv B xs
  | [], k => by simp [dv]
  | x :: xs, 0 => by simp [dv]
  | x :: xs, k + 1 => by
    have ih := dv_ge B xs k
    simp only [List.getD_cons_succ, dv_cons, Nat.pow_succ]
    have h1 : B ^ k * B * xs.getD k 0 = B * (B ^ k * xs.getD k 0) := by rw [Nat.mul_comm (B ^ k), Nat.mul_assoc]
    have h2 : B * (B ^ k * xs.getD k 0) ≤ B * dv B xs := Nat.mul_le_mul_left _ ih
    omega
theorem mod_next (n i : Nat) : n % 256 ^ (i + 1) = n % 256 ^ i + 256 ^ i * (n / 256 ^ i % 256) := by
  rw [Nat.pow_succ, Nat.mod_mul]

end Go.Proofs.YtmiafkbjmkaebaaGreat.Num

namespace Go.Proofs.YtmiafkbjmkaebaaGreat.Num

/-- The first k decimal digits of a number, the least significant one first, as bytes. -/
def ldk : Nat → Nat → List UInt8
  | 0, _ => []
  | k + 1, n => UInt8.ofNat (48 + n % 10) :: ldk k (n / 10)
theorem ldk_length (k n : Nat) : (ldk k n).length = k := by
  induction k generalizing n with
  | zero => rfl
  | succ k ih => simp [ldk, ih]
theorem ldk_snoc (k n : Nat) : ldk (k + 1) n = ldk k n ++ [UInt8.ofNat (48 + n / 10 ^ k % 10)] := by
  induction k generalizing n with
  | zero => simp [ldk]
  | succ k ih =>
    rw [ldk, ih, ldk, List.cons_append, Nat.div_div_eq_div_mul, Nat.pow_succ, Nat.mul_comm 10]
theorem ldk_get (k n j : Nat) (h : j < k) : (ldk k n).getD j 0 = UInt8.ofNat (48 + n / 10 ^ j % 10) := by
  induction k generalizing n j with
  | zero => omega
  | succ k ih =>
    cases j with
    | zero => simp [ldk]
    | succ j =>
      rw [ldk, List.getD_cons_succ, ih _ _ (by omega), Nat.div_div_eq_div_mul, Nat.pow_succ, Nat.mul_comm 10]
theorem ldk_take (k m n : Nat) (h : m ≤ k) : (ldk k n).take m = ldk m n := by
  induction k generalizing n m with
  | zero => have : m = 0 := by omega
            subst this; rfl
  | succ k ih =>
    cases m with
    | zero => rfl
    | succ m => rw [ldk, ldk, List.take_succ_cons, ih _ _ (by omega)]
/-- How many decimal digits a number has. -/
def dn (n : Nat) : Nat := if _h : n = 0 then 0 else dn (n / 10) + 1
termination_by n
decreasing_by omega
theorem dn_zero : dn 0 = 0 := by rw [dn]; simp
theorem dn_pos {n : Nat} (h : n ≠ 0) : dn n = dn (n / 10) + 1 := by rw [dn]; simp [h]
theorem dn_lt (n : Nat) : n < 10 ^ dn n := by
  induction n using Nat.strongRecOn with
  | ind n ih =>
    by_cases h : n = 0
    · subst h; rw [dn_zero]; decide
    · have := ih (n / 10) (by omega)
      rw [dn_pos h, Nat.pow_succ]
      omega
theorem dn_ge {n : Nat} (h : n ≠ 0) : 10 ^ (dn n - 1) ≤ n := by
  induction n using Nat.strongRecOn with
  | ind n ih =>
    rw [dn_pos h, Nat.add_sub_cancel]
    by_cases h2 : n / 10 = 0
    · rw [h2, dn_zero]; simp; omega
    · have := ih (n / 10) (by omega) h2
      obtain ⟨m, hm⟩ : ∃ m, dn (n / 10) = m + 1 := ⟨dn (n / 10 / 10), dn_pos h2⟩
      rw [hm, Nat.add_sub_cancel] at this
      rw [hm, Nat.pow_succ]
      omega
theorem dn_le {n k : Nat} (h : n < 10 ^ k) : dn n ≤ k := by
  by_cases h0 : n = 0
  · rw [h0, dn_zero]; omega
  · have := dn_ge h0
    apply Decidable.byContradiction
    intro hc
    have : 10 ^ k ≤ 10 ^ (dn n - 1) := Nat.pow_le_pow_right (by decide) (by omega)
    omega
/-- The digit with the weight 10^j beyond the number is 0; the highest one is not. -/
theorem dig_zero {n j : Nat} (h : dn n ≤ j) : n / 10 ^ j % 10 = 0 := by
  have h1 := dn_lt n
  have h2 : 10 ^ dn n ≤ 10 ^ j := Nat.pow_le_pow_right (by decide) h
  rw [Nat.div_eq_of_lt (by omega)]
theorem dig_top {n : Nat} (h : n ≠ 0) : n / 10 ^ (dn n - 1) % 10 ≠ 0 := by
  have h1 := dn_ge h
  have h2 := dn_lt n
  obtain ⟨m, hm⟩ : ∃ m, dn n = m + 1 := ⟨dn (n / 10), dn_pos h⟩
  rw [hm] at h2 ⊢
  rw [hm, Nat.add_sub_cancel] at h1
  rw [Nat.add_sub_cancel]
  have hp : 0 < 10 ^ m := Nat.pow_pos (by decide)
  have h3 : 1 ≤ n / 10 ^ m := (Nat.le_div_iff_mul_le hp).2 (by omega)
  have h4 : n / 10 ^ m < 10 := (Nat.div_lt_iff_lt_mul hp).2 (by rw [Nat.pow_succ] at h2; omega)
  omega
/-- The text of a number. -/
def dtext (n : Nat) : List UInt8 := if n = 0 then [48] else (ldk (dn n) n).reverse
theorem dtext_zero : dtext 0 = [48] := by simp [dtext]
theorem dtext_pos {n : Nat} (h : n ≠ 0) : dtext n = (ldk (dn n) n).reverse := by simp [dtext, h]

end Go.Proofs.YtmiafkbjmkaebaaGreat.Num
