/-
  The contracts of math/bits.Add64, Sub64, Mul64, Len64 and LeadingZeros64, as this program holds them.
-/
import Derived.Test.YtmiafkbjmkaebaaGreatModA
import Derived.Test.YtmiafkbjmkaebaaGreatDivide
import Derived.Lib.Mul64
import Derived.Laws.Externs
import Derived.Shelf.Spec.BitsCarry
namespace Go.Proofs.YtmiafkbjmkaebaaGreat
open Go.RowKit Num

theorem run_Add64 (x y c : Nat) (hc : c ≤ 1) (w : World) :
    (callFunc 117 #[.int .u64 (x : Int), .int .u64 (y : Int), .int .u64 (c : Int)]).run Tryz.prog w =
      .ok (.value (.tuple #[.int .u64 (((x + y + c) % 18446744073709551616 : Nat) : Int), .int .u64 (((x + y + c) / 18446744073709551616 : Nat) : Int)])) w := by
  rw [run_callFunc_extern Tryz.func117 (by kernel_rfl) (by kernel_rfl) (by kernel_rfl) (e := add64Entry) (by kernel_rfl), run_add64 x y c (by omega) (by omega) (by omega) (by omega)]
  simp only [Result.andThen]
  congr 5 <;> omega
theorem run_Sub64 (x y b : Nat) (hb : b ≤ 1) (w : World) :
    (callFunc 140 #[.int .u64 (x : Int), .int .u64 (y : Int), .int .u64 (b : Int)]).run Tryz.prog w =
      .ok (.value (.tuple #[.int .u64 (((x + 18446744073709551616 - y - b) % 18446744073709551616 : Nat) : Int), .int .u64 ((if x < y + b then 1 else 0 : Nat) : Int)])) w := by
  rw [run_callFunc_extern Tryz.func140 (by kernel_rfl) (by kernel_rfl) (by kernel_rfl) (e := sub64Entry) (by kernel_rfl), run_sub64 x y b hb]
  rfl

theorem m64_mask (a : Nat) (ha : a < 18446744073709551616) : bits BinOp.and IntKind.u64 (a : Int) 4294967295 = ((a % 4294967296 : Nat) : Int) := mask32 a ha
theorem m64_div (a : Nat) : (a : Int) / 4294967296 = ((a / 4294967296 : Nat) : Int) := by omega
theorem m64_mul (a b : Nat) : (a : Int) * (b : Int) = ((a * b : Nat) : Int) := (Int.natCast_mul a b).symm
theorem m64_add (a b : Nat) : (a : Int) + (b : Int) = ((a + b : Nat) : Int) := (Int.natCast_add a b).symm
theorem m64_wrap (a : Nat) (ha : a < 18446744073709551616) : IntKind.u64.wrap (a : Int) = (a : Int) := by rw [IntKind.wrap_u64]; omega
theorem m64_mod (a : Nat) : IntKind.u64.wrap (a : Int) = ((a % 18446744073709551616 : Nat) : Int) := by rw [IntKind.wrap_u64]; omega

set_option maxHeartbeats 1000000 in
set_option maxRecDepth 100000 in
theorem mul64_any (x y : Nat) (hx : x < 18446744073709551616) (hy : y < 18446744073709551616) (w : World) :
    Calls Tryz.prog 116 #[.int .u64 (x : Int), .int .u64 (y : Int)] w (Same w (.tuple #[.int .u64 ((x * y / 18446744073709551616 : Nat) : Int), .int .u64 ((x * y % 18446744073709551616 : Nat) : Int)])) := by
  obtain ⟨bd, bt, bw, hhi⟩ := Lib.mul64_hi x y hx hy
  have ba := Lib.half_mul_le (a := x / 4294967296) (b := y / 4294967296) (by omega) (by omega)
  have bb := Lib.half_mul_le (a := x / 4294967296) (b := y % 4294967296) (by omega) (by omega)
  have bc := Lib.half_mul_le (a := x % 4294967296) (b := y / 4294967296) (by omega) (by omega)
  have ba' : x / 4294967296 * (y / 4294967296) < 18446744073709551616 := by omega
  have bb' : x / 4294967296 * (y % 4294967296) < 18446744073709551616 := by omega
  have bc' : x % 4294967296 * (y / 4294967296) < 18446744073709551616 := by omega
  have bh1 : x / 4294967296 * (y / 4294967296) + (x / 4294967296 * (y % 4294967296) + x % 4294967296 * (y % 4294967296) / 4294967296) / 4294967296 < 18446744073709551616 := by omega
  have bh : x / 4294967296 * (y / 4294967296) + (x / 4294967296 * (y % 4294967296) + x % 4294967296 * (y % 4294967296) / 4294967296) / 4294967296 + ((x / 4294967296 * (y % 4294967296) + x % 4294967296 * (y % 4294967296) / 4294967296) % 4294967296 + x % 4294967296 * (y / 4294967296)) / 4294967296 < 18446744073709551616 := by omega
  go_enter Tryz.func116, Tryz.ntmps116
  go_wp2
  simp only [m64_mask x hx, m64_mask y hy, m64_div, m64_mul, m64_add, m64_wrap _ bd, m64_wrap _ bb', m64_wrap _ bt, m64_mask _ bt, m64_wrap _ bc', m64_wrap _ bw, m64_wrap _ ba', m64_wrap _ bh1, m64_wrap _ bh, m64_mod (x * y)]
  rw [hhi]
  go_ret2
  exact ⟨rfl, rfl⟩

theorem bitLen_down : ∀ (t x : Nat), x < 2 ^ 64 → x / 2 ^ t ≠ 0 → Lib.bitLen x = t + Lib.bitLen (x / 2 ^ t) := by
  intro t
  induction t with
  | zero => intro x _ _; simp
  | succ t ih =>
    intro x hx h
    have h2 : x / 2 ^ (t + 1) = x / 2 / 2 ^ t := by rw [Nat.div_div_eq_div_mul, Nat.pow_succ, Nat.mul_comm]
    rw [h2] at h ⊢
    have h0 : x ≠ 0 := by rintro rfl; simp at h
    rw [Lib.bitLen_half x h0 hx, ih (x / 2) (by omega) h]
    omega
theorem len64_sum (t x v : Nat) (h64 : x < 18446744073709551616) (h : x / 2 ^ t = v) (h0 : v ≠ 0) : Lib.bitLen x = t + Lib.bitLen v := by
  rw [bitLen_down t x h64 (by rw [h]; exact h0), h]

set_option maxHeartbeats 2000000 in
set_option maxRecDepth 100000 in
theorem len64_int (x : Int) (h0 : 0 ≤ x) (h1 : x ≤ 18446744073709551615) (w : World) :
    Calls Tryz.prog 110 #[.int .u64 x] w (Same w (.int .i64 (Lib.bitLen x.toNat))) := by
  rcases (show (72057594037927936 ≤ x) ∨ (281474976710656 ≤ x ∧ x < 72057594037927936) ∨ (1099511627776 ≤ x ∧ x < 281474976710656) ∨ (4294967296 ≤ x ∧ x < 1099511627776) ∨ (16777216 ≤ x ∧ x < 4294967296) ∨ (65536 ≤ x ∧ x < 16777216) ∨ (256 ≤ x ∧ x < 65536) ∨ (x < 256) by omega) with h | ⟨h, h'⟩ | ⟨h, h'⟩ | ⟨h, h'⟩ | ⟨h, h'⟩ | ⟨h, h'⟩ | ⟨h, h'⟩ | h
  · obtain ⟨v, hv⟩ : ∃ v : Int, x / 4294967296 / 65536 / 256 = v := ⟨_, rfl⟩
    have v1 : v ≤ 255 := by omega
    have v0 : 0 < v := by omega
    have HS := Lib.hid (len64_sum 56 x.toNat v.toNat (by omega) (by rw [show (2 : Nat) ^ 56 = 72057594037927936 from by decide]; omega) (by omega))
    have HW := Lib.hid (wrap_len8 v (by omega) v1)
    have HB := Lib.hid (Lib.bitLen_le8' v (by omega) v1)
    have w0 : 0 ≤ v := by omega
    clear v0
    go_enter Tryz.func110, Tryz.ntmps110
    go_wp2
    go_ret
    exact ⟨ret_int (show wrap64 (56 + wrap64 (Lib.len8 v)) = (Lib.bitLen x.toNat : Int) by rw [HW.out, HS.out, IntWalk.wrap64_in _ ⟨by have := HB.out; omega, by have := HB.out; omega⟩]; omega), rfl⟩
  · obtain ⟨v, hv⟩ : ∃ v : Int, x / 4294967296 / 65536 = v := ⟨_, rfl⟩
    have v1 : v ≤ 255 := by omega
    have v0 : 0 < v := by omega
    have HS := Lib.hid (len64_sum 48 x.toNat v.toNat (by omega) (by rw [show (2 : Nat) ^ 48 = 281474976710656 from by decide]; omega) (by omega))
    have HW := Lib.hid (wrap_len8 v (by omega) v1)
    have HB := Lib.hid (Lib.bitLen_le8' v (by omega) v1)
    have w0 : 0 ≤ v := by omega
    clear v0
    go_enter Tryz.func110, Tryz.ntmps110
    go_wp2
    go_ret
    exact ⟨ret_int (show wrap64 (48 + wrap64 (Lib.len8 v)) = (Lib.bitLen x.toNat : Int) by rw [HW.out, HS.out, IntWalk.wrap64_in _ ⟨by have := HB.out; omega, by have := HB.out; omega⟩]; omega), rfl⟩
  · obtain ⟨v, hv⟩ : ∃ v : Int, x / 4294967296 / 256 = v := ⟨_, rfl⟩
    have v1 : v ≤ 255 := by omega
    have v0 : 0 < v := by omega
    have HS := Lib.hid (len64_sum 40 x.toNat v.toNat (by omega) (by rw [show (2 : Nat) ^ 40 = 1099511627776 from by decide]; omega) (by omega))
    have HW := Lib.hid (wrap_len8 v (by omega) v1)
    have HB := Lib.hid (Lib.bitLen_le8' v (by omega) v1)
    have w0 : 0 ≤ v := by omega
    clear v0
    go_enter Tryz.func110, Tryz.ntmps110
    go_wp2
    go_ret
    exact ⟨ret_int (show wrap64 (40 + wrap64 (Lib.len8 v)) = (Lib.bitLen x.toNat : Int) by rw [HW.out, HS.out, IntWalk.wrap64_in _ ⟨by have := HB.out; omega, by have := HB.out; omega⟩]; omega), rfl⟩
  · obtain ⟨v, hv⟩ : ∃ v : Int, x / 4294967296 = v := ⟨_, rfl⟩
    have v1 : v ≤ 255 := by omega
    have v0 : 0 < v := by omega
    have HS := Lib.hid (len64_sum 32 x.toNat v.toNat (by omega) (by rw [show (2 : Nat) ^ 32 = 4294967296 from by decide]; omega) (by omega))
    have HW := Lib.hid (wrap_len8 v (by omega) v1)
    have HB := Lib.hid (Lib.bitLen_le8' v (by omega) v1)
    have w0 : 0 ≤ v := by omega
    clear v0
    go_enter Tryz.func110, Tryz.ntmps110
    go_wp2
    go_ret
    exact ⟨ret_int (show wrap64 (32 + wrap64 (Lib.len8 v)) = (Lib.bitLen x.toNat : Int) by rw [HW.out, HS.out, IntWalk.wrap64_in _ ⟨by have := HB.out; omega, by have := HB.out; omega⟩]; omega), rfl⟩
  · obtain ⟨v, hv⟩ : ∃ v : Int, x / 65536 / 256 = v := ⟨_, rfl⟩
    have v1 : v ≤ 255 := by omega
    have v0 : 0 < v := by omega
    have HS := Lib.hid (len64_sum 24 x.toNat v.toNat (by omega) (by rw [show (2 : Nat) ^ 24 = 16777216 from by decide]; omega) (by omega))
    have HW := Lib.hid (wrap_len8 v (by omega) v1)
    have HB := Lib.hid (Lib.bitLen_le8' v (by omega) v1)
    have w0 : 0 ≤ v := by omega
    clear v0
    go_enter Tryz.func110, Tryz.ntmps110
    go_wp2
    go_ret
    exact ⟨ret_int (show wrap64 (24 + wrap64 (Lib.len8 v)) = (Lib.bitLen x.toNat : Int) by rw [HW.out, HS.out, IntWalk.wrap64_in _ ⟨by have := HB.out; omega, by have := HB.out; omega⟩]; omega), rfl⟩
  · obtain ⟨v, hv⟩ : ∃ v : Int, x / 65536 = v := ⟨_, rfl⟩
    have v1 : v ≤ 255 := by omega
    have v0 : 0 < v := by omega
    have HS := Lib.hid (len64_sum 16 x.toNat v.toNat (by omega) (by rw [show (2 : Nat) ^ 16 = 65536 from by decide]; omega) (by omega))
    have HW := Lib.hid (wrap_len8 v (by omega) v1)
    have HB := Lib.hid (Lib.bitLen_le8' v (by omega) v1)
    have w0 : 0 ≤ v := by omega
    clear v0
    go_enter Tryz.func110, Tryz.ntmps110
    go_wp2
    go_ret
    exact ⟨ret_int (show wrap64 (16 + wrap64 (Lib.len8 v)) = (Lib.bitLen x.toNat : Int) by rw [HW.out, HS.out, IntWalk.wrap64_in _ ⟨by have := HB.out; omega, by have := HB.out; omega⟩]; omega), rfl⟩
  · obtain ⟨v, hv⟩ : ∃ v : Int, x / 256 = v := ⟨_, rfl⟩
    have v1 : v ≤ 255 := by omega
    have v0 : 0 < v := by omega
    have HS := Lib.hid (len64_sum 8 x.toNat v.toNat (by omega) (by rw [show (2 : Nat) ^ 8 = 256 from by decide]; omega) (by omega))
    have HW := Lib.hid (wrap_len8 v (by omega) v1)
    have HB := Lib.hid (Lib.bitLen_le8' v (by omega) v1)
    have w0 : 0 ≤ v := by omega
    clear v0
    go_enter Tryz.func110, Tryz.ntmps110
    go_wp2
    go_ret
    exact ⟨ret_int (show wrap64 (8 + wrap64 (Lib.len8 v)) = (Lib.bitLen x.toNat : Int) by rw [HW.out, HS.out, IntWalk.wrap64_in _ ⟨by have := HB.out; omega, by have := HB.out; omega⟩]; omega), rfl⟩
  · have v1 : x ≤ 255 := by omega
    have HW := Lib.hid (wrap_len8 x h0 v1)
    have HB := Lib.hid (Lib.bitLen_le8' x h0 v1)
    go_enter Tryz.func110, Tryz.ntmps110
    go_wp2
    go_ret
    exact ⟨ret_int (show wrap64 (wrap64 (Lib.len8 x)) = (Lib.bitLen x.toNat : Int) by rw [HW.out, IntWalk.wrap64_in _ ⟨by have := HB.out; omega, by have := HB.out; omega⟩]), rfl⟩
theorem len64_any (x : Nat) (h1 : x < 18446744073709551616) (w : World) :
    Calls Tryz.prog 110 #[.int .u64 (x : Int)] w (Same w (.int .i64 (Lib.bitLen x))) := len64_int (x : Int) (by omega) (by omega) w
theorem lz64_any (x : Nat) (h1 : x < 18446744073709551616) (w : World) :
    Calls Tryz.prog 85 #[.int .u64 (x : Int)] w (Same w (.int .i64 (64 - Lib.bitLen x : Int))) := by
  have hb : Lib.bitLen x ≤ 64 := Lib.bitLen_le _ 64 (by omega) (by omega)
  go_enter Tryz.func85, Tryz.ntmps85
  go_wp2_with (go_at_call 110; refine (len64_any x h1 _).mono ?_; rintro e w' ⟨rfl, rfl⟩)
  go_ret
  exact ⟨rfl, rfl⟩

end Go.Proofs.YtmiafkbjmkaebaaGreat
