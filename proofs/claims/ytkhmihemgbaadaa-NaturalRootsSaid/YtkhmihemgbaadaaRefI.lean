/-
  The contract of the reference's Sqrt.
-/
import Derived.Test.YtkhmihemgbaadaaRefH
namespace Go.Proofs.Ytkhmihemgbaadaa
open Go.RowKit Num

theorem nb_top {a : Nat} (ha : a < Top) : nb a ≤ 1024 := by
  by_cases h : a = 0
  · rw [h, nb_zero]; omega
  · obtain ⟨s, hs⟩ := root_ex a
    exact (root_start hs h ha).2.2
theorem sq_start {a m : Nat} (hm : m = (nb a + 1) / 2) : a < (0 + 2 ^ (m + 1)) * (0 + 2 ^ (m + 1)) := by
  rw [Nat.zero_add, ← Nat.pow_add]
  have h1 : a < 2 ^ nb a := by
    by_cases h : a = 0
    · rw [h]; exact Nat.pow_pos (by decide)
    · exact (nb_bounds h).2.1
  exact Nat.lt_of_lt_of_le h1 (Nat.pow_le_pow_right (by decide) (by omega))
theorem sq_in {a x t : Nat} (h : a < (x + 2 ^ (t + 1)) * (x + 2 ^ (t + 1))) : a < (x + 2 ^ t + 2 ^ t) * (x + 2 ^ t + 2 ^ t) := by
  have : x + 2 ^ t + 2 ^ t = x + 2 ^ (t + 1) := by rw [Nat.pow_succ]; omega
  rw [this]
  exact h
theorem two_top {t : Nat} (h : t ≤ 600) : 2 ^ t < Top := by
  rw [top_pow]
  exact Nat.pow_lt_pow_right (by decide) (show t < E1024 by unfold E1024; omega)
theorem le_sq {x a : Nat} (h : x * x ≤ a) : x ≤ a := by
  rcases Nat.eq_zero_or_pos x with g | g
  · omega
  · exact Nat.le_trans (Nat.le_mul_of_pos_right x g) h
theorem y_size {x t a : Nat} (h : x * x ≤ a) (ha : a < Top) (ht : t ≤ 600) : (bs (x + 2 ^ t)).size ≤ 129 := by
  have h1 := le_sq h
  have h2 := two_top ht
  rw [bs_le, Nat.pow_succ]
  unfold Top at ha h2
  omega
theorem yy_size {y k : Nat} (h : (bs y).size ≤ k) : (bs (y * y)).size ≤ k + k := by
  rw [bs_le] at h ⊢
  rw [Nat.pow_add]
  exact Nat.mul_lt_mul'' h h

set_option maxHeartbeats 1000000 in
set_option maxRecDepth 100000 in
theorem rsqrt_ok {a : Nat} (ha : a < Top) (w : World) :
    Calls Try.prog 45 #[.string (bs a)] w (Rooted w a) := by
  have HA := Lib.hid ha
  have HZ := Lib.hid bs_zero
  have h1 := bs_small ha
  have hnb := nb_top ha
  obtain ⟨m, hm⟩ : ∃ m, m = (nb a + 1) / 2 := ⟨_, rfl⟩
  have hmi : ((nb a : Int) + 1) / 2 = (m : Int) := by omega
  have hmb : m ≤ 512 := by omega
  have HM := Lib.hid hm
  clear ha hm
  go_enter Try.func45, Try.ntmps45
  go_wp2_with fail
  refine (rvalid_yes HA.out _).mono ?_
  rintro e w' ⟨rfl, rfl⟩
  go_wp2_with fail
  refine (rbits_any a _ (by omega)).mono ?_
  rintro e w' ⟨rfl, rfl⟩
  go_wp2
  rw [hmi]
  clear hmi
  go_loopw [4, 5] (fun u v wr => ∃ (j x : Nat) (q : Int), j ≤ 513 ∧ Hid (q = (j : Int) - 1) ∧ -1 ≤ q ∧ q ≤ 512 ∧ v = .int .i64 q ∧ u = .string (bs x) ∧ Hid (x * x ≤ a) ∧ Hid (a < (x + 2 ^ j) * (x + 2 ^ j)) ∧ Below w.heap.size w wr) (fun _ v _ => (intOf v + 1).toNat)
  case atStart => exact ⟨m + 1, 0, m, by omega, Lib.hid (by omega), by omega, by omega, rfl, by rw [HZ.out], Lib.hid (by simp), Lib.hid (sq_start HM.out), Below.refl _ _⟩
  case round =>
    obtain ⟨j, x, q, hj, HQ, hq1, hq2, rfl, rfl, HX, HY, hbel⟩ := hrel
    by_cases hlt : 0 ≤ q
    · obtain ⟨t, rfl⟩ : ∃ t, j = t + 1 := ⟨j - 1, by have := HQ.out; omega⟩
      obtain rfl : q = (t : Int) := by have := HQ.out; omega
      have ht : t ≤ 600 := by omega
      have hys := y_size HX.out HA.out ht
      have hyy := yy_size hys
      have hxs : (bs x).size ≤ 129 := bs_mono (Nat.le_add_right _ _) hys
      have h2s : (bs (2 ^ t)).size ≤ 129 := bs_mono (Nat.le_add_left _ _) hys
      obtain ⟨y, hy⟩ : ∃ y, y = x + 2 ^ t := ⟨_, rfl⟩
      have HIN := Lib.hid (sq_in HY.out)
      have HT := Lib.hid (fun W => twos_any t (by omega) W)
      have HP := Lib.hid (fun W => plus_any x (2 ^ t) W (by omega) (by omega))
      rw [← hy] at hys hyy HIN HP
      have HYE := Lib.hid hy
      clear hy h2s hxs
      have hB := hbel
      clear hbel
      go_wp2_with fail
      refine (HT.out _).mono ?_
      rintro e w1 ⟨rfl, hb1⟩
      replace hB := hB.trans (hb1.mono hB.size); clear hb1
      go_wp2_with fail
      refine (HP.out _).mono ?_
      rintro e w1 ⟨rfl, hb1⟩
      replace hB := hB.trans (hb1.mono hB.size); clear hb1
      go_wp2_with fail
      refine (rtimes_any y y _ (by omega) (by omega)).mono ?_
      rintro e w1 ⟨rfl, hb1⟩
      replace hB := hB.trans (hb1.mono hB.size); clear hb1
      go_wp2_with fail
      refine (order_any (y * y) a _ (by omega)).mono ?_
      rintro e w1 ⟨rfl, hb1⟩
      replace hB := hB.trans (hb1.mono hB.size); clear hb1
      by_cases hle : y * y ≤ a
      · have hc : cmpN (y * y) a ≤ 0 := by unfold cmpN; split; omega; rw [if_neg (by omega)]; omega
        have HL := Lib.hid hle
        clear hle
        go_wp2
        go_roundw
        case rel => exact ⟨t, y, (t : Int) - 1, by omega, Lib.hid rfl, by omega, by omega, rfl, rfl, HL, HIN, hB⟩
        case measure => show ((t : Int) - 1 + 1).toNat < ((t : Int) + 1).toNat; omega
      · have hc : cmpN (y * y) a = 1 := by unfold cmpN; rw [if_neg (by omega), if_pos (by omega)]
        rw [hc]
        have HL := Lib.hid (show a < (x + 2 ^ t) * (x + 2 ^ t) by rw [← HYE.out]; omega)
        clear hle hc
        go_wp2
        go_roundw
        case rel => exact ⟨t, x, (t : Int) - 1, by omega, Lib.hid rfl, by omega, by omega, rfl, rfl, HX, HL, hB⟩
        case measure => show ((t : Int) - 1 + 1).toNat < ((t : Int) + 1).toNat; omega
    · have hj0 : j = 0 := by have := HQ.out; omega
      subst hj0
      have HR := Lib.hid (show IsRoot a x from ⟨HX.out, by have := HY.out; simpa using this⟩)
      go_wp2
      go_ret2
      exact ⟨x, HR.out, rfl, hbel⟩
end Go.Proofs.Ytkhmihemgbaadaa
