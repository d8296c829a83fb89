/-
  Contracts of natural.Sqrt and Bit for canonical arguments.
-/
import Derived.Test.YtehpdpcpdfgnlaaNatE
namespace Go.Proofs.Ytehpdpcpdfgnlaa
open Go.RowKit Num

/-- s is the integer root of a. -/
def IsRoot (a s : Nat) : Prop := s * s ≤ a ∧ a < (s + 1) * (s + 1)
theorem root_ex (a : Nat) : ∃ s, IsRoot a s := by
  induction a with
  | zero => exact ⟨0, by simp [IsRoot]⟩
  | succ a ih =>
    obtain ⟨s, h1, h2⟩ := ih
    by_cases h : (s + 1) * (s + 1) ≤ a + 1
    · refine ⟨s + 1, h, ?_⟩
      have : (s + 1 + 1) * (s + 1 + 1) = (s + 1) * (s + 1) + 2 * (s + 1) + 1 := by grind
      omega
    · exact ⟨s, by omega, by omega⟩
theorem root_unique {a s t : Nat} (hs : IsRoot a s) (ht : IsRoot a t) : s = t := by
  have h1 : ∀ {x y : Nat}, IsRoot a x → IsRoot a y → x ≤ y := by
    intro x y hx hy
    apply Decidable.byContradiction
    intro hc
    have : (y + 1) * (y + 1) ≤ x * x := Nat.mul_le_mul (by omega) (by omega)
    have := hx.1
    have := hy.2
    omega
  exact Nat.le_antisymm (h1 hs ht) (h1 ht hs)
theorem newton_ge {a s x : Nat} (h : s * s ≤ a) (hx : 0 < x) : s ≤ (x + a / x) / 2 := by
  rw [Nat.le_div_iff_mul_le (by decide)]
  apply Decidable.byContradiction
  intro hc
  have hd := Nat.div_add_mod a x
  have hm := Nat.mod_lt a hx
  generalize a / x = q at *
  have h1 : a < x * (q + 1) := by rw [Nat.mul_add]; omega
  have h2 : x + (q + 1) ≤ 2 * s := by omega
  have h3 : (x + (q + 1)) * (x + (q + 1)) ≤ 2 * s * (2 * s) := Nat.mul_le_mul h2 h2
  have h4 : 4 * (x * (q + 1)) ≤ (x + (q + 1)) * (x + (q + 1)) := by
    generalize q + 1 = y
    rcases Nat.le_total x y with g | g
    · obtain ⟨d, rfl⟩ := Nat.le.dest g
      have : (x + (x + d)) * (x + (x + d)) = 4 * (x * (x + d)) + d * d := by grind
      omega
    · obtain ⟨d, rfl⟩ := Nat.le.dest g
      have : (y + d + y) * (y + d + y) = 4 * ((y + d) * y) + d * d := by grind
      omega
  have h5 : 2 * s * (2 * s) = 4 * (s * s) := by grind
  omega
theorem newton_stop {a s x : Nat} (hs : IsRoot a s) (hx : s ≤ x) (hx0 : 0 < x) (h : x ≤ (x + a / x) / 2) : x = s := by
  have h1 : x ≤ a / x := by omega
  rw [Nat.le_div_iff_mul_le hx0] at h1
  have h2 := hs.2
  apply Decidable.byContradiction
  intro hc
  have : (s + 1) * (s + 1) ≤ x * x := Nat.mul_le_mul (by omega) (by omega)
  omega
theorem newton_small {a s x : Nat} (hs : IsRoot a s) (hx : s ≤ x) (hs0 : 0 < s) : a / x ≤ s + 2 := by
  have h1 : a / x ≤ a / s := Nat.div_le_div_left hx hs0
  have h2 : a / s ≤ s + 2 := by
    have : a < (s + 3) * s := by
      have := hs.2
      have e : (s + 1) * (s + 1) = s * s + 2 * s + 1 := by grind
      have e2 : (s + 3) * s = s * s + 3 * s := by grind
      omega
    have := (Nat.div_lt_iff_lt_mul hs0).2 this
    omega
  exact Nat.le_trans h1 h2
def E1024 : Nat := 8 * 128
def E512 : Nat := 8 * 64
def P512 : Nat := 2 ^ E512
theorem top_pow : Top = 2 ^ E1024 := by unfold Top E1024; rw [show (256 : Nat) = 2 ^ 8 from by decide, ← Nat.pow_mul]
theorem p512_top : 2 * P512 + 2 < Top := by
  rw [top_pow]
  unfold P512
  have h0 : E512 + 2 < E1024 := by decide
  have h1 : 2 ^ (E512 + 2) < 2 ^ E1024 := Nat.pow_lt_pow_right (by decide) h0
  have h2 : 1 ≤ 2 ^ E512 := Nat.pow_pos (by decide)
  rw [Nat.pow_add] at h1
  generalize 2 ^ E512 = p at *
  omega
theorem root_start {a s : Nat} (hs : IsRoot a s) (h0 : a ≠ 0) (ha : a < Top) : s ≤ 2 ^ ((nb a + 1) / 2) ∧ 2 ^ ((nb a + 1) / 2) ≤ P512 ∧ nb a ≤ 1024 := by
  obtain ⟨h1, h2, h3⟩ := nb_bounds h0
  have hn : nb a ≤ 1024 := by
    apply Decidable.byContradiction
    intro hc
    have h0 : E1024 ≤ nb a - 1 := by unfold E1024; omega
    have h4 : 2 ^ E1024 ≤ 2 ^ (nb a - 1) := Nat.pow_le_pow_right (by decide) h0
    rw [← top_pow] at h4
    omega
  refine ⟨?_, Nat.pow_le_pow_right (by decide) (show (nb a + 1) / 2 ≤ E512 by unfold E512; omega), hn⟩
  apply Decidable.byContradiction
  intro hc
  have h6 : 2 ^ ((nb a + 1) / 2) * 2 ^ ((nb a + 1) / 2) ≤ s * s := Nat.mul_le_mul (by omega) (by omega)
  rw [← Nat.pow_add] at h6
  have h7 : 2 ^ nb a ≤ 2 ^ ((nb a + 1) / 2 + (nb a + 1) / 2) := Nat.pow_le_pow_right (by decide) (by omega)
  have := hs.1
  omega

/-- Sqrt hands back the root. -/
def Rooted (w : World) (a : Nat) (e : Ending) (w' : World) : Prop := ∃ s, IsRoot a s ∧ e = .returned (.tuple #[.string (bs s), .int .i64 0]) ∧ Below w.heap.size w w'
theorem bs2 : 2 < Top := by unfold Top; decide

set_option maxHeartbeats 1000000 in
set_option maxRecDepth 100000 in
theorem sqrt_ok {a : Nat} (ha : a < Top) (w : World) :
    Calls Try.prog 58 #[.string (bs a)] w (Rooted w a) := by
  have HA := Lib.hid ha
  by_cases h0 : a = 0
  · subst h0
    have he : (bs 0).toList.isEmpty = true := by rw [bs_isEmpty]; rfl
    have HZ := Lib.hid bs_zero
    clear ha
    go_enter Try.func58, Try.ntmps58
    go_wp2_with (go_at_call 53; refine (valid_yes HA.out _).mono ?_; rintro e w' ⟨rfl, rfl⟩)
    go_ret2
    exact ⟨0, by simp [IsRoot], by rw [HZ.out]; rfl, Below.refl _ _⟩
  · have he : (bs a).toList.isEmpty = false := by rw [bs_isEmpty]; simpa using h0
    obtain ⟨s, hs⟩ := root_ex a
    obtain ⟨r1, r2, r3⟩ := root_start hs h0 ha
    have hs0 : 0 < s := by
      rcases Nat.eq_zero_or_pos s with rfl | h
      · have := hs.2; simp at this; omega
      · exact h
    obtain ⟨m, hm⟩ : ∃ m, m = (nb a + 1) / 2 := ⟨_, rfl⟩
    have hmi : ((nb a : Int) + 1) / 2 = (m : Int) := by omega
    have hmk : m ≤ 100000 := by omega
    rw [← hm] at r1 r2
    have HS := Lib.hid hs
    have HS0 := Lib.hid hs0
    have H0 := Lib.hid h0
    have R1 := Lib.hid r1
    have R2 := Lib.hid r2
    have hb2 : bs 2 = bs 2 := rfl
    clear ha h0 hs hs0 hm r1 r2 hb2
    go_enter Try.func58, Try.ntmps58
    go_wp2_with fail
    refine (valid_yes HA.out _).mono ?_
    rintro e w' ⟨rfl, rfl⟩
    go_wp2_with fail
    refine (bits_ok HA.out _).mono ?_
    rintro e w' ⟨rfl, rfl⟩
    go_wp2_with fail
    refine (power_any m hmk _).mono ?_
    rintro e w1 ⟨rfl, hb1⟩
    go_wp2
    go_loopw [4] (fun v wr => ∃ x : Nat, v = .string (bs x) ∧ Hid (s ≤ x) ∧ Hid (x ≤ P512) ∧ Below w.heap.size w wr) (fun v _ => strVal v)
    case atStart => exact ⟨2 ^ m, rfl, R1, R2, hb1⟩
    case round =>
      obtain ⟨x, rfl, HX1, HX2, hbel⟩ := hrel
      have hx0 : 0 < x := Nat.lt_of_lt_of_le HS0.out HX1.out
      have hxT : x < Top := by have := HX2.out; have := p512_top; omega
      have hqT : a / x < Top := Nat.lt_of_le_of_lt (Nat.div_le_self _ _) HA.out
      have hq := newton_small HS.out HX1.out HS0.out
      have hsum : x + a / x < Top := by have := HX2.out; have := p512_top; have := HX1.out; generalize a / x = q at *; omega
      have HXT := Lib.hid hxT
      have HX0 := Lib.hid hx0
      have HQT := Lib.hid hqT
      have HSUM := Lib.hid hsum
      clear hx0 hxT hqT hq hsum
      go_wp2_with fail
      refine (divmod_ok HA.out HXT.out (Nat.pos_iff_ne_zero.1 HX0.out) _).mono ?_
      rintro e w2 ⟨rfl, hb2⟩
      go_wp2_with fail
      refine (add_ok HXT.out HQT.out HSUM.out _).mono ?_
      rintro e w3 ⟨rfl, hb3⟩
      go_wp2_with fail
      refine (of_any 2 (by decide) _).mono ?_
      rintro e w4 ⟨rfl, hb4⟩
      go_wp2_with fail
      refine (divmod_ok HSUM.out bs2 (by decide) _).mono ?_
      rintro e w5 ⟨rfl, hb5⟩
      have hnT : (x + a / x) / 2 < Top := Nat.lt_of_le_of_lt (Nat.div_le_self _ _) HSUM.out
      have HNT := Lib.hid hnT
      clear hnT
      go_wp2_with fail
      refine (cmp_yes HNT.out HXT.out _).mono ?_
      rintro e w' ⟨rfl, rfl⟩
      have b2 := hbel.trans (hb2.mono hbel.size)
      have b3 := b2.trans (hb3.mono b2.size)
      have b4 := b3.trans (hb4.mono b3.size)
      have b5 := b4.trans (hb5.mono b4.size)
      clear hb2 hb3 hb4 hb5 b2 b3 b4
      by_cases hlt : (x + a / x) / 2 < x
      · have hc : cmpN ((x + a / x) / 2) x = -1 := by unfold cmpN; rw [if_pos hlt]
        have HM := Lib.hid (show strVal (.string (bs ((x + a / x) / 2))) < strVal (.string (bs x)) by rw [strVal_bs, strVal_bs]; exact hlt)
        have HN := Lib.hid (newton_ge HS.out.1 HX0.out)
        have HP : Hid ((x + a / x) / 2 ≤ P512) := Lib.hid (Nat.le_trans (Nat.le_of_lt hlt) HX2.out)
        clear hlt
        go_wp2
        go_roundw
        case rel => exact ⟨(x + a / x) / 2, rfl, HN, HP, b5⟩
        case measure => exact HM.out
      · have hc : 0 ≤ cmpN ((x + a / x) / 2) x := by unfold cmpN; rw [if_neg hlt]; split <;> omega
        have hxs := newton_stop HS.out HX1.out HX0.out (by omega)
        have HXS := Lib.hid hxs
        clear hlt hxs
        go_wp2
        go_ret2
        exact ⟨x, by rw [HXS.out]; exact HS.out, rfl, b5⟩
end Go.Proofs.Ytehpdpcpdfgnlaa
