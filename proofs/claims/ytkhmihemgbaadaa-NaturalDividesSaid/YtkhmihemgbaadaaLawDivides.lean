/-
  dominolaw01.NaturalDivides returns true: the walk, for all strings.
-/
import Derived.Test.YtkhmihemgbaadaaLawReads
namespace Go.Proofs.Ytkhmihemgbaadaa
open Go.RowKit Num

theorem lt_top_of'' {n k : Nat} (h : n < 256 ^ k) (hk : k ≤ 128) : n < Top := Nat.lt_of_lt_of_le h (Nat.pow_le_pow_right (by decide) hk)
theorem low_bits (a i : Nat) : a % 2 ^ (i + 1) = a % 2 ^ i + (if bitB a i then 2 ^ i else 0) := by
  rw [Nat.pow_succ, Nat.mod_mul]
  unfold bitB
  rcases (show a / 2 ^ i % 2 = 1 ∨ a / 2 ^ i % 2 = 0 by omega) with h | h <;> simp [h]
theorem nb_le_of {a k : Nat} (h : a < 256 ^ k) : nb a ≤ 8 * k := by
  by_cases ha : a = 0
  · rw [ha, nb_zero]; omega
  · have h1 := (nb_bounds ha).1
    apply Decidable.byContradiction
    intro hc
    have h2 : 2 ^ (8 * k) ≤ 2 ^ (nb a - 1) := Nat.pow_le_pow_right (by decide) (by omega)
    rw [Nat.pow_mul] at h2
    have h3 : (2 : Nat) ^ 8 = 256 := by decide
    rw [h3] at h2
    omega
def E500 : Nat := 500
theorem pow_top {i : Nat} (h : i ≤ 500) : 2 ^ i + 2 ^ i < Top := by
  rw [top_pow]
  have h1 : 2 ^ i ≤ 2 ^ E500 := Nat.pow_le_pow_right (by decide) (show i ≤ E500 from h)
  have h0 : E500 + 1 < E1024 := by decide
  have h2 : 2 ^ (E500 + 1) < 2 ^ E1024 := Nat.pow_lt_pow_right (by decide) h0
  rw [Nat.pow_add] at h2
  omega

set_option maxHeartbeats 4000000 in
set_option maxRecDepth 100000 in
theorem divides_core (a b : Nat) (w : World) (ha : a < 256 ^ 60) (hb : b < 256 ^ 60) :
    Calls Try.prog 11 #[.string (bs a), .string (bs b)] w (Made w (.bool true)) := by
  have sa : (bs a).size ≤ 60 := bs_le.2 ha
  have sb : (bs b).size ≤ 60 := bs_le.2 hb
  have Ta := lt_top_of'' ha (by decide)
  have Tb := lt_top_of'' hb (by decide)
  have hnb : nb a ≤ 480 := nb_le_of ha
  have HA := Lib.hid Ta
  have HBT := Lib.hid Tb
  have HZ := Lib.hid bs_zero
  have BT := Lib.hid (fun W => bits_ok Ta W)
  have BO := Lib.hid (fun W => bit_out (bs a) (nb a) (nb a : Int) W (fun W => bits_ok Ta W) (.inr (Int.le_refl _)))
  have hlast : a % 2 ^ nb a = a := by
    by_cases h0 : a = 0
    · rw [h0]; simp
    · exact Nat.mod_eq_of_lt (nb_bounds h0).2.1
  have HLAST := Lib.hid hlast
  have qa : ((bs a).toList != (bs a).toList) = false := by simp
  have hB : Below w.heap.size w w := Below.refl _ _
  clear Ta Tb ha hb hlast
  go_enter Try.func11, Try.ntmps11
  go_wp2_with fail
  refine (valid_yes HA.out _).mono ?_
  rintro e w' ⟨rfl, rfl⟩
  go_wp2_with fail
  refine (valid_yes HBT.out _).mono ?_
  rintro e w' ⟨rfl, rfl⟩
  go_wp2_with fail
  refine (of_lit _ (by decide) (by decide) _).mono ?_
  rintro e w1 ⟨rfl, hb1⟩
  go_wp2
  go_loopw [5, 6, 7] (fun u v c wr => ∃ i : Nat, i ≤ nb a ∧ c = .int .i64 i ∧ u = .string (bs (a % 2 ^ i)) ∧ v = .string (bs (2 ^ i)) ∧ Below w.heap.size w wr) (fun _ _ c _ => 500 - (intOf c).toNat)
  case atStart => exact ⟨0, by omega, rfl, by rw [show a % 2 ^ 0 = 0 from by simp [Nat.mod_one], HZ.out], rfl, hb1⟩
  case round =>
    clear hb1
    obtain ⟨i, hi, rfl, rfl, rfl, hbel⟩ := hrel
    by_cases hlt : i < nb a
    · have hd : decide (i < nb a) = true := by simpa using hlt
      have hpt := pow_top (i := i) (by omega)
      have HPT := Lib.hid hpt
      have hmt : a % 2 ^ i < 2 ^ i := Nat.mod_lt _ (Nat.pow_pos (by decide))
      have hbx := low_bits a i
      have BY := Lib.hid (fun W => bit_yes HA.out i hlt W)
      have hB2 : Below w.heap.size w wr := hbel
      have HP1 : Hid (2 ^ i < Top) := Lib.hid (by have := HPT.out; omega)
      have HM1 : Hid (a % 2 ^ i < Top) := Lib.hid (by have := HPT.out; omega)
      have W2 : ∀ W, Calls Try.prog 33 #[.string (bs (2 ^ i)), .string (bs (2 ^ i))] W (Made W (.tuple #[.string (bs (2 ^ (i + 1))), .int .i64 0])) := fun W => by
        have := add_ok HP1.out HP1.out HPT.out W
        rw [← Nat.two_mul, Nat.mul_comm, ← Nat.pow_succ] at this
        exact this
      have HW2 := Lib.hid W2
      clear W2 hpt hbel
      by_cases hbit : bitB a i = true
      · rw [hbit] at BY
        have A2 : ∀ W, Calls Try.prog 33 #[.string (bs (a % 2 ^ i)), .string (bs (2 ^ i))] W (Made W (.tuple #[.string (bs (a % 2 ^ (i + 1))), .int .i64 0])) := fun W => by
          rw [hbx, hbit, if_pos rfl]
          exact add_ok HM1.out HP1.out (by have := HPT.out; omega) W
        have HA2 := Lib.hid A2
        clear A2 hbx hbit hmt
        go_wp2_with fail
        refine (BT.out _).mono ?_
        rintro e w' ⟨rfl, rfl⟩
        go_wp2_with fail
        refine (BY.out _).mono ?_
        rintro e w' ⟨rfl, rfl⟩
        go_wp2_with fail
        refine (HA2.out _).mono ?_
        rintro e w3 ⟨rfl, hb3⟩
        replace hB2 := hB2.trans (hb3.mono hB2.size)
        go_wp2_with fail
        refine (HW2.out _).mono ?_
        rintro e w4 ⟨rfl, hb4⟩
        replace hB2 := hB2.trans (hb4.mono hB2.size)
        clear hb3 hb4
        go_wp2
        go_roundw
        case rel => exact ⟨i + 1, by omega, by go_num, rfl, rfl, hB2⟩
        case measure => simp [intOf]; omega
      · have hbit : bitB a i = false := by simpa using hbit
        rw [hbit] at BY
        have HE : Hid (a % 2 ^ i = a % 2 ^ (i + 1)) := Lib.hid (by rw [hbx, hbit]; simp)
        clear hbx hbit hmt
        go_wp2_with fail
        refine (BT.out _).mono ?_
        rintro e w' ⟨rfl, rfl⟩
        go_wp2_with fail
        refine (BY.out _).mono ?_
        rintro e w' ⟨rfl, rfl⟩
        go_wp2_with fail
        refine (HW2.out _).mono ?_
        rintro e w4 ⟨rfl, hb4⟩
        replace hB2 := hB2.trans (hb4.mono hB2.size)
        clear hb4
        go_wp2
        go_roundw
        case rel => exact ⟨i + 1, by omega, by go_num, by rw [HE.out], rfl, hB2⟩
        case measure => simp [intOf]; omega
    · have hd : decide (i < nb a) = false := by simpa using hlt
      obtain rfl : i = nb a := by omega
      rw [HLAST.out]
      have hB2 : Below w.heap.size w wr := hbel
      clear hbel hlt
      go_wp2_with fail
      refine (BT.out _).mono ?_
      rintro e w' ⟨rfl, rfl⟩
      go_wp2_with fail
      refine (BT.out _).mono ?_
      rintro e w' ⟨rfl, rfl⟩
      go_wp2_with fail
      refine (BO.out _).mono ?_
      rintro e w' ⟨rfl, rfl⟩
      by_cases hb0 : b = 0
      · subst hb0
        have he : (bs 0).toList.isEmpty = true := by rw [bs_isEmpty]; rfl
        go_wp2_with fail
        refine (divmod_zero HA.out _).mono ?_
        rintro e w' ⟨rfl, rfl⟩
        go_wp2_with fail
        refine (awake_any _).mono ?_
        rintro e w4 ⟨rfl, hb4⟩
        go_wp2
        go_ret
        exact ⟨rfl, hB2.trans (hb4.mono hB2.size)⟩
      · have he : (bs b).toList.isEmpty = false := by rw [bs_isEmpty]; simpa using hb0
        have hdm := Nat.div_add_mod a b
        have hqb : a / b * b ≤ a := Nat.div_mul_le_self a b
        have hrb : a % b < b := Nat.mod_lt _ (Nat.pos_of_ne_zero hb0)
        have hqa : a / b ≤ a := Nat.div_le_self a b
        obtain ⟨q, hq⟩ : ∃ q, q = a / b := ⟨_, rfl⟩
        obtain ⟨r, hr⟩ : ∃ r, r = a % b := ⟨_, rfl⟩
        obtain ⟨p, hp⟩ : ∃ p, p = q * b := ⟨_, rfl⟩
        have DM := Lib.hid (fun W => divmod_ok HA.out HBT.out hb0 W)
        rw [← hq] at hdm hqb hqa
        rw [← hr] at hdm hrb
        rw [← hq, ← hr] at DM
        rw [← hp] at hqb
        have M1 : ∀ W, Calls Try.prog 38 #[.string (bs q), .string (bs b)] W (Made W (.tuple #[.string (bs p), .int .i64 0])) := fun W => by
          rw [hp]; exact mul_ok (Nat.lt_of_le_of_lt hqa HA.out) HBT.out (by rw [← hp]; exact Nat.lt_of_le_of_lt hqb HA.out) W
        have hrT : r < Top := Nat.lt_trans hrb HBT.out
        have hpr : p + r = a := by rw [hp, Nat.mul_comm]; exact hdm
        have A1 : ∀ W, Calls Try.prog 33 #[.string (bs p), .string (bs r)] W (Made W (.tuple #[.string (bs a), .int .i64 0])) := fun W => by
          have := add_ok (a := p) (b := r) (Nat.lt_of_le_of_lt hqb HA.out) hrT (by rw [hpr]; exact HA.out) W
          rw [hpr] at this
          exact this
        have C1 := Lib.hid (fun W => cmp_yes hrT HBT.out W)
        have hc : cmpN r b = -1 := by unfold cmpN; rw [if_pos hrb]
        rw [hc] at C1
        have HM1 := Lib.hid M1
        have HA1 := Lib.hid A1
        clear M1 A1 hdm hqb hrb hqa hq hr hp hpr hc hrT hb0
        go_wp2_with fail
        refine (DM.out _).mono ?_
        rintro e w4 ⟨rfl, hb4⟩
        replace hB2 := hB2.trans (hb4.mono hB2.size); clear hb4
        go_wp2_with fail
        refine (HM1.out _).mono ?_
        rintro e w5 ⟨rfl, hb4⟩
        replace hB2 := hB2.trans (hb4.mono hB2.size); clear hb4
        go_wp2_with fail
        refine (HA1.out _).mono ?_
        rintro e w6 ⟨rfl, hb4⟩
        replace hB2 := hB2.trans (hb4.mono hB2.size); clear hb4
        go_wp2_with fail
        refine (awake_any _).mono ?_
        rintro e w7 ⟨rfl, hb4⟩
        replace hB2 := hB2.trans (hb4.mono hB2.size); clear hb4
        go_wp2_with fail
        refine (C1.out _).mono ?_
        rintro e w' ⟨rfl, rfl⟩
        go_wp2
        go_ret
        exact ⟨rfl, hB2⟩

set_option maxHeartbeats 2000000 in
set_option maxRecDepth 100000 in
theorem law_divides (a b : ByteArray) (w : World) (ha : a.size ≤ 9223372036854775807) (hb : b.size ≤ 9223372036854775807) :
    Calls Try.prog 11 #[.string a, .string b] w (Made w (.bool true)) := by
  have hB : Below w.heap.size w w := Below.refl _ _
  by_cases h1 : 60 < a.size
  · go_enter Try.func11, Try.ntmps11
    go_wp2_with (go_at_call 22; refine (awake_any _).mono ?_; rintro e w' ⟨rfl, hb⟩; replace hB := hB.trans (hb.mono hB.size); clear hb)
    go_ret
    exact ⟨rfl, hB⟩
  by_cases h2 : 60 < b.size
  · go_enter Try.func11, Try.ntmps11
    go_wp2_with (go_at_call 22; refine (awake_any _).mono ?_; rintro e w' ⟨rfl, hb⟩; replace hB := hB.trans (hb.mono hB.size); clear hb)
    go_ret
    exact ⟨rfl, hB⟩
  have V1 := Lib.hid (fun W => valid_any a W ha)
  have V2 := Lib.hid (fun W => valid_any b W hb)
  by_cases v1 : validB a = true
  case neg =>
    have v1 : validB a = false := by simpa using v1
    rw [v1] at V1
    clear v1
    go_enter Try.func11, Try.ntmps11
    go_wp2_with (first
      | (go_at_call 25; (first | (with_reducible refine (V1.out _).mono ?_) | (with_reducible refine (V2.out _).mono ?_)); rintro e w' ⟨rfl, rfl⟩)
      | (go_at_call 22; refine (awake_any _).mono ?_; rintro e w' ⟨rfl, hb⟩; replace hB := hB.trans (hb.mono hB.size); clear hb))
    go_ret
    exact ⟨rfl, hB⟩
  by_cases v2 : validB b = true
  case neg =>
    have v2 : validB b = false := by simpa using v2
    rw [v1] at V1
    rw [v2] at V2
    clear v1 v2
    go_enter Try.func11, Try.ntmps11
    go_wp2_with (first
      | (go_at_call 25; (first | (with_reducible refine (V1.out _).mono ?_) | (with_reducible refine (V2.out _).mono ?_)); rintro e w' ⟨rfl, rfl⟩)
      | (go_at_call 22; refine (awake_any _).mono ?_; rintro e w' ⟨rfl, hb⟩; replace hB := hB.trans (hb.mono hB.size); clear hb))
    go_ret
    exact ⟨rfl, hB⟩
  obtain ⟨x, _, rfl⟩ := bs_of_valid v1
  obtain ⟨y, _, rfl⟩ := bs_of_valid v2
  exact divides_core x y w (bs_le.1 (by omega)) (bs_le.1 (by omega))
end Go.Proofs.Ytkhmihemgbaadaa
