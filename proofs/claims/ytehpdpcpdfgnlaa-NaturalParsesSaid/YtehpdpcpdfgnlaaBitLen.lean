/-
  The contracts of math/bits.Len8, Len32 and LeadingZeros32, as this program holds them.
-/
import Derived.Test.YtehpdpcpdfgnlaaMem
import Derived.Lib.BitFns
import Derived.Lib.Tables
import Derived.Lib.Small
namespace Go.Proofs.Ytehpdpcpdfgnlaa
open Go.RowKit Num

theorem wrap_len8 (x : Int) (h0 : 0 ≤ x) (h1 : x ≤ 255) : wrap64 (Lib.len8 x) = (Lib.bitLen x.toNat : Int) := by
  unfold wrap64; exact Lib.len8_int x h0 h1

set_option maxHeartbeats 1000000 in
set_option maxRecDepth 100000 in
theorem len8_any (x : Int) (h0 : 0 ≤ x) (h1 : x ≤ 255) (w : World) :
    Calls Try.prog 107 #[.int .u8 x] w fun e w' => e = .returned (.int .i64 (Lib.bitLen x.toNat)) ∧ w = w' := by
  have HW := Lib.hid (wrap_len8 x h0 h1)
  go_enter Try.func107, Try.ntmps107
  go_wp2
  go_ret
  exact ⟨by rw [← HW.out]; rfl, rfl⟩

set_option maxHeartbeats 1000000 in
set_option maxRecDepth 100000 in
theorem len32_any (x : Int) (h0 : 0 ≤ x) (h1 : x ≤ 4294967295) (w : World) :
    Calls Try.prog 109 #[.int .u32 x] w fun e w' => e = .returned (.int .i64 (Lib.bitLen x.toNat)) ∧ w = w' := by
  rcases (show 16777216 ≤ x ∨ (65536 ≤ x ∧ x < 16777216) ∨ (256 ≤ x ∧ x < 65536) ∨ x < 256 by omega) with h | ⟨h, h'⟩ | ⟨h, h'⟩ | h
  · obtain ⟨v, hv⟩ : ∃ v, x / 65536 / 256 = v := ⟨_, rfl⟩
    have v0 : 0 ≤ v := by omega
    have v1 : v ≤ 255 := by omega
    have HW := Lib.hid (show wrap64 (Lib.len8 v) = (Lib.bitLen v.toNat : Int) from wrap_len8 v v0 v1)
    have HB := Lib.hid (Lib.bitLen_le8' v v0 v1)
    have HS := Lib.hid (show Lib.bitLen x.toNat = 24 + Lib.bitLen v.toNat by
      rw [Lib.bitLen_shift24 x.toNat (by omega) (by omega), show x.toNat / 16777216 = v.toNat from by omega])
    go_enter Try.func109, Try.ntmps109
    go_wp2
    go_ret
    exact ⟨ret_int (show wrap64 (24 + wrap64 (Lib.len8 v)) = (Lib.bitLen x.toNat : Int) by
      rw [HW.out, HS.out, IntWalk.wrap64_in _ ⟨by have := HB.out; omega, by have := HB.out; omega⟩]; omega), rfl⟩
  · obtain ⟨v, hv⟩ : ∃ v, x / 65536 = v := ⟨_, rfl⟩
    have v0 : 0 ≤ v := by omega
    have v1 : v ≤ 255 := by omega
    have HW := Lib.hid (show wrap64 (Lib.len8 v) = (Lib.bitLen v.toNat : Int) from wrap_len8 v v0 v1)
    have HB := Lib.hid (Lib.bitLen_le8' v v0 v1)
    have HS := Lib.hid (show Lib.bitLen x.toNat = 16 + Lib.bitLen v.toNat by
      rw [Lib.bitLen_shift16 x.toNat (by omega) (by omega), show x.toNat / 65536 = v.toNat from by omega])
    go_enter Try.func109, Try.ntmps109
    go_wp2
    go_ret
    exact ⟨ret_int (show wrap64 (16 + wrap64 (Lib.len8 v)) = (Lib.bitLen x.toNat : Int) by
      rw [HW.out, HS.out, IntWalk.wrap64_in _ ⟨by have := HB.out; omega, by have := HB.out; omega⟩]; omega), rfl⟩
  · obtain ⟨v, hv⟩ : ∃ v, x / 256 = v := ⟨_, rfl⟩
    have v0 : 0 ≤ v := by omega
    have v1 : v ≤ 255 := by omega
    have HW := Lib.hid (show wrap64 (Lib.len8 v) = (Lib.bitLen v.toNat : Int) from wrap_len8 v v0 v1)
    have HB := Lib.hid (Lib.bitLen_le8' v v0 v1)
    have HS := Lib.hid (show Lib.bitLen x.toNat = 8 + Lib.bitLen v.toNat by
      rw [Lib.bitLen_shift8 x.toNat (by omega) (by omega), show x.toNat / 256 = v.toNat from by omega])
    go_enter Try.func109, Try.ntmps109
    go_wp2
    go_ret
    exact ⟨ret_int (show wrap64 (8 + wrap64 (Lib.len8 v)) = (Lib.bitLen x.toNat : Int) by
      rw [HW.out, HS.out, IntWalk.wrap64_in _ ⟨by have := HB.out; omega, by have := HB.out; omega⟩]; omega), rfl⟩
  · have hx255 : x ≤ 255 := by omega
    have HW := Lib.hid (wrap_len8 x h0 hx255)
    have HB := Lib.hid (Lib.bitLen_le8' x h0 hx255)
    go_enter Try.func109, Try.ntmps109
    go_wp2
    go_ret
    exact ⟨ret_int (show wrap64 (wrap64 (Lib.len8 x)) = (Lib.bitLen x.toNat : Int) by
      rw [HW.out, IntWalk.wrap64_in _ ⟨by have := HB.out; omega, by have := HB.out; omega⟩]), rfl⟩

theorem lz_any (x : Int) (h0 : 0 ≤ x) (h1 : x ≤ 4294967295) (w : World) :
    Calls Try.prog 103 #[.int .u32 x] w fun e w' => e = .returned (.int .i64 (32 - Lib.bitLen x.toNat : Int)) ∧ w = w' := by
  have hb : Lib.bitLen x.toNat ≤ 32 := Lib.bitLen_le _ 32 (by omega) (by omega)
  go_enter Try.func103, Try.ntmps103
  go_wp2_with (go_at_call 109; refine (len32_any x h0 h1 _).mono ?_; rintro e w' ⟨rfl, rfl⟩)
  go_ret
  exact ⟨rfl, rfl⟩

theorem bitLen_pow : ∀ (k x : Nat), k ≤ 64 → x < 2 ^ k → x ≠ 0 → 2 ^ (Lib.bitLen x - 1) ≤ x ∧ x < 2 ^ Lib.bitLen x ∧ 0 < Lib.bitLen x := by
  intro k
  induction k with
  | zero => intro x _ h h0; simp at h; omega
  | succ k ih =>
    intro x hk h h0
    have h64 : x < 2 ^ 64 := Nat.lt_of_lt_of_le h (Nat.pow_le_pow_right (by decide) hk)
    have hh := Lib.bitLen_half x h0 h64
    by_cases h2 : x / 2 = 0
    · have : x = 1 := by omega
      subst this
      decide
    · obtain ⟨i1, i2, i3⟩ := ih (x / 2) (by omega) (by rw [Nat.pow_succ] at h; omega) h2
      rw [hh]
      obtain ⟨m, hm⟩ : ∃ m, Lib.bitLen (x / 2) = m + 1 := ⟨Lib.bitLen (x / 2) - 1, by omega⟩
      rw [hm] at i1 i2 ⊢
      rw [show 1 + (m + 1) - 1 = m + 1 from by omega, show 1 + (m + 1) = (m + 1) + 1 from by omega, Nat.pow_succ 2 (m + 1)]
      rw [Nat.add_sub_cancel] at i1
      rw [Nat.pow_succ] at i2 ⊢
      omega
end Go.Proofs.Ytehpdpcpdfgnlaa
