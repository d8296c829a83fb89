/-
  The contracts of math/bits.Len8, Len32 and LeadingZeros32, as this program holds them. The contracts of natural.shiftLeft and natural.shiftRight. Plain mathematics of the division of digits: the guess of one digit of the quotient. Plain mathematics of the division of digits: the loop over the digits of the quotient. The contract of natural.guessDigit. The contracts of natural.subtractTimes and natural.addBack. The contracts of natural.addBack and natural.divideStep. The contract of natural.divide.
-/
import Derived.Test.YtmiafkbjmkaebaaGreatBase
import Derived.Lib.BitFns
import Derived.Lib.Tables
import Derived.Lib.Small
import Derived.Test.YtmiafkbjmkaebaaGreatDig
import Derived.RegionTactic
import Derived.BigRegion
namespace Go.Proofs.YtmiafkbjmkaebaaGreat
open Go.RowKit Num

theorem wrap_len8 (x : Int) (h0 : 0 ≤ x) (h1 : x ≤ 255) : wrap64 (Lib.len8 x) = (Lib.bitLen x.toNat : Int) := by
  unfold wrap64; exact Lib.len8_int x h0 h1

set_option maxHeartbeats 1000000 in
set_option maxRecDepth 100000 in
theorem len8_any (x : Int) (h0 : 0 ≤ x) (h1 : x ≤ 255) (w : World) :
    Calls Tryz.prog 131 #[.int .u8 x] w fun e w' => e = .returned (.int .i64 (Lib.bitLen x.toNat)) ∧ w = w' := by
  have HW := Lib.hid (wrap_len8 x h0 h1)
  go_enter Tryz.func131, Tryz.ntmps131
  go_wp2
  go_ret
  exact ⟨by rw [← HW.out]; rfl, rfl⟩

set_option maxHeartbeats 1000000 in
set_option maxRecDepth 100000 in
theorem len32_any (x : Int) (h0 : 0 ≤ x) (h1 : x ≤ 4294967295) (w : World) :
    Calls Tryz.prog 126 #[.int .u32 x] w fun e w' => e = .returned (.int .i64 (Lib.bitLen x.toNat)) ∧ w = w' := by
  rcases (show 16777216 ≤ x ∨ (65536 ≤ x ∧ x < 16777216) ∨ (256 ≤ x ∧ x < 65536) ∨ x < 256 by omega) with h | ⟨h, h'⟩ | ⟨h, h'⟩ | h
  · obtain ⟨v, hv⟩ : ∃ v, x / 65536 / 256 = v := ⟨_, rfl⟩
    have v0 : 0 ≤ v := by omega
    have v1 : v ≤ 255 := by omega
    have HW := Lib.hid (show wrap64 (Lib.len8 v) = (Lib.bitLen v.toNat : Int) from wrap_len8 v v0 v1)
    have HB := Lib.hid (Lib.bitLen_le8' v v0 v1)
    have HS := Lib.hid (show Lib.bitLen x.toNat = 24 + Lib.bitLen v.toNat by
      rw [Lib.bitLen_shift24 x.toNat (by omega) (by omega), show x.toNat / 16777216 = v.toNat from by omega])
    go_enter Tryz.func126, Tryz.ntmps126
    go_wp2
    go_ret
    exact ⟨ret_int (show wrap64 (24 + wrap64 (Lib.len8 v)) = (Lib.bitLen x.toNat : Int) by
      rw [HW.out, HS.out, IntWalk.wrap64_in _ ⟨by have := HB.out; omega, by have := HB.out; omega⟩]; omega), rfl⟩
  · obtain ⟨v, hv⟩ : ∃ v, x / 65536 = v := ⟨_, rfl⟩
    have v0 : 0 ≤ v := by omega
    have v1 : v ≤ 255 := by omega
    have HW := Lib.hid (show wrap64 (Lib.len8 v) = (Lib.bitLen v.toNat : Int) from wrap_len8 v v0 v1)
    have HB := Lib.hid (Lib.bitLen_le8' v v0 v1)
    have HS := Lib.hid (show Lib.bitLen x.toNat = 16 + Lib.bitLen v.toNat by
      rw [Lib.bitLen_shift16 x.toNat (by omega) (by omega), show x.toNat / 65536 = v.toNat from by omega])
    go_enter Tryz.func126, Tryz.ntmps126
    go_wp2
    go_ret
    exact ⟨ret_int (show wrap64 (16 + wrap64 (Lib.len8 v)) = (Lib.bitLen x.toNat : Int) by
      rw [HW.out, HS.out, IntWalk.wrap64_in _ ⟨by have := HB.out; omega, by have := HB.out; omega⟩]; omega), rfl⟩
  · obtain ⟨v, hv⟩ : ∃ v, x / 256 = v := ⟨_, rfl⟩
    have v0 : 0 ≤ v := by omega
    have v1 : v ≤ 255 := by omega
    have HW := Lib.hid (show wrap64 (Lib.len8 v) = (Lib.bitLen v.toNat : Int) from wrap_len8 v v0 v1)
    have HB := Lib.hid (Lib.bitLen_le8' v v0 v1)
    have HS := Lib.hid (show Lib.bitLen x.toNat = 8 + Lib.bitLen v.toNat by
      rw [Lib.bitLen_shift8 x.toNat (by omega) (by omega), show x.toNat / 256 = v.toNat from by omega])
    go_enter Tryz.func126, Tryz.ntmps126
    go_wp2
    go_ret
    exact ⟨ret_int (show wrap64 (8 + wrap64 (Lib.len8 v)) = (Lib.bitLen x.toNat : Int) by
      rw [HW.out, HS.out, IntWalk.wrap64_in _ ⟨by have := HB.out; omega, by have := HB.out; omega⟩]; omega), rfl⟩
  · have hx255 : x ≤ 255 := by omega
    have HW := Lib.hid (wrap_len8 x h0 hx255)
    have HB := Lib.hid (Lib.bitLen_le8' x h0 hx255)
    go_enter Tryz.func126, Tryz.ntmps126
    go_wp2
    go_ret
    exact ⟨ret_int (show wrap64 (wrap64 (Lib.len8 x)) = (Lib.bitLen x.toNat : Int) by
      rw [HW.out, IntWalk.wrap64_in _ ⟨by have := HB.out; omega, by have := HB.out; omega⟩]), rfl⟩

theorem lz_any (x : Int) (h0 : 0 ≤ x) (h1 : x ≤ 4294967295) (w : World) :
    Calls Tryz.prog 104 #[.int .u32 x] w fun e w' => e = .returned (.int .i64 (32 - Lib.bitLen x.toNat : Int)) ∧ w = w' := by
  have hb : Lib.bitLen x.toNat ≤ 32 := Lib.bitLen_le _ 32 (by omega) (by omega)
  go_enter Tryz.func104, Tryz.ntmps104
  go_wp2_with (go_at_call 126; refine (len32_any x h0 h1 _).mono ?_; rintro e w' ⟨rfl, rfl⟩)
  go_ret
  exact ⟨rfl, rfl⟩

theorem bitLen_pow : ∀ (k x : Nat), k ≤ 64 → x < 2 ^ k → x ≠ 0 → 2 ^ (Lib.bitLen x - 1) ≤ x ∧ x < 2 ^ Lib.bitLen x ∧ 0 < Lib.bitLen x := by
  intro k
  induction k with
  | zero => intro x _ h h0; simp at h; omega
  | succ k ih =>
    intro x hk h h0
    have h64 : x < 2 ^ 64 := Nat.lt_of_lt_of_le h (Nat.pow_le_pow_right (by decide) hk)
    have hh := Lib.bitLen_half x h0 h64
    by_cases h2 : x / 2 = 0
    · have : x = 1 := by omega
      subst this
      decide
    · obtain ⟨i1, i2, i3⟩ := ih (x / 2) (by omega) (by rw [Nat.pow_succ] at h; omega) h2
      rw [hh]
      obtain ⟨m, hm⟩ : ∃ m, Lib.bitLen (x / 2) = m + 1 := ⟨Lib.bitLen (x / 2) - 1, by omega⟩
      rw [hm] at i1 i2 ⊢
      rw [show 1 + (m + 1) - 1 = m + 1 from by omega, show 1 + (m + 1) = (m + 1) + 1 from by omega, Nat.pow_succ 2 (m + 1)]
      rw [Nat.add_sub_cancel] at i1
      rw [Nat.pow_succ] at i2 ⊢
      omega
end Go.Proofs.YtmiafkbjmkaebaaGreat

namespace Go.Proofs.YtmiafkbjmkaebaaGreat
open Go.RowKit Num

theorem shl_step {X zs : List Nat} {k s lo hi z : Nat} (hk : k + 1 < zs.length) (h : dv B32 (zs.take k) + B32 ^ k * z = dv B32 (X.take k) * s) (hx : X.getD k 0 * s = lo + B32 * hi) :
    dv B32 (((zs.set k (z + lo)).set (k + 1) hi).take (k + 1)) + B32 ^ (k + 1) * hi = dv B32 (X.take (k + 1)) * s ∧ ((zs.set k (z + lo)).set (k + 1) hi).getD (k + 1) 0 = hi := by
  constructor
  · rw [List.take_set_of_le (Nat.le_refl _), dv_set_next _ _ _ _ (by omega), dv_take_next B32 X, Nat.pow_succ, Nat.add_mul, ← h]
    have e : B32 ^ k * X.getD k 0 * s = B32 ^ k * lo + B32 ^ k * B32 * hi := by
      rw [Nat.mul_assoc, hx, Nat.mul_add, Nat.mul_assoc]
    rw [e, Nat.mul_add]
    omega
  · simp [List.getD_eq_getElem?_getD, hk]
theorem shl_last {X zs : List Nat} {n s : Nat} (hz : zs.length = n + 1) (hX : X.length = n) (h : dv B32 (zs.take n) + B32 ^ n * zs.getD n 0 = dv B32 (X.take n) * s) : dv B32 zs = dv B32 X * s := by
  rw [← dv_take_next, dv_take_all _ _ _ (by omega), dv_take_all _ _ _ (by omega)] at h
  exact h
theorem pow32 {s : Nat} (h : s < 32) : ∃ u, 4294967296 = 2 ^ s * u := ⟨2 ^ (32 - s), by rw [← Nat.pow_add, show s + (32 - s) = 32 from by omega]⟩
theorem pow_le31 {s : Nat} (h : s < 32) : 2 ^ s ≤ 2147483648 := Nat.pow_le_pow_right (n := 2) (by decide) (show s ≤ 31 by omega)

theorem shl_or {x z s wd : Nat} (hs : s < 32) (hx : x < 4294967296) (hz : z < 2 ^ s) (hwd : wd = x * 2 ^ s) : bits BinOp.or IntKind.u32 (z : Int) ((wd : Int) % 4294967296) = ((z + wd % 4294967296 : Nat) : Int) ∧ z + wd % 4294967296 < 4294967296 ∧ wd / 4294967296 < 2 ^ s := by
  obtain ⟨u, hu⟩ := pow32 hs
  have h31 := pow_le31 hs
  have h0 : wd % 4294967296 % 2 ^ s = 0 := by
    rw [hu, Nat.mod_mul_right_mod, hwd]; exact Nat.mul_mod_left _ _
  have h1 : z + wd % 4294967296 < 4294967296 := by
    have h2 : wd % 4294967296 < 4294967296 := Nat.mod_lt _ (by decide)
    have h3 := Nat.div_add_mod (wd % 4294967296) (2 ^ s)
    rw [h0, Nat.add_zero] at h3
    have h4 : 2 ^ s * (wd % 4294967296 / 2 ^ s) < 2 ^ s * u := by rw [h3, ← hu]; exact h2
    have h5 := Nat.lt_of_mul_lt_mul_left h4
    have h6 : 2 ^ s * (wd % 4294967296 / 2 ^ s + 1) ≤ 2 ^ s * u := Nat.mul_le_mul_left _ h5
    rw [Nat.mul_add, h3, ← hu] at h6
    omega
  refine ⟨?_, h1, ?_⟩
  · rw [show ((wd : Int) % 4294967296) = ((wd % 4294967296 : Nat) : Int) from by omega, u32_or_nat _ _ (by omega) (by omega), Nat.or_comm, nat_join s _ _ h0 hz, Nat.add_comm]
  · rw [Nat.div_lt_iff_lt_mul (by decide), hwd, Nat.mul_comm]
    exact Nat.mul_lt_mul_of_pos_left hx (Nat.pow_pos (by decide))

set_option maxHeartbeats 1000000 in
set_option maxRecDepth 100000 in
theorem shl_any (A : Option Addr) (X : List Nat) (cx s : Nat) (w : World) (hX : IsD w A X) (hs : s < 32) (hm : X.length ≤ 1000) :
    Calls Tryz.prog 105 #[.slice A X.length cx, .int .i64 s] w (MadeD w (X.length + 1) (dv B32 X * 2 ^ s)) := by
  obtain ⟨i0, hi0, hz0, hz1, hz2⟩ := info_parts info_u32
  go_enter Tryz.func105, Tryz.ntmps105
  go_wp2_with (at_make; refine wpList_make_full _ rfl _ _ 98 rfl w.heap.size 124 i0 (.int .u32 0) 1 Tryz.underlying98 hi0 hz0 hz1 _ _ _ _ (X.length + 1) rfl rfl (by omega) (by omega) (by rw [hz2]; omega) (by unfold maxLen; omega) (Nat.le_refl _) ?_; intro w0 hown0 hgrow0)
  have hb0 : Below w.heap.size w w0 := (Below.refl _ _).grown hgrow0 (Nat.le_refl _) (fun g hg => by cases hg)
  rw [madeD] at hown0
  have hd0 := Dg.of_own hown0
  clear hown0 hgrow0
  go_loopw [14] (fun i wr => ∃ (k : Nat) (zs : List Nat), k ≤ X.length ∧ i = .int .i64 k ∧ Hid (zs.length = X.length + 1) ∧ Small zs ∧ Dg wr w.heap.size zs ∧ Hid (zs.getD k 0 < 2 ^ s) ∧ Hid (dv B32 (zs.take k) + B32 ^ k * zs.getD k 0 = dv B32 (X.take k) * 2 ^ s) ∧ Below w.heap.size w wr) (fun i _ => X.length - (intOf i).toNat)
  case atStart => exact ⟨0, _, Nat.zero_le _, rfl, Lib.hid List.length_replicate, Small.replicate _, hd0, Lib.hid (by simp [Nat.pow_pos]), Lib.hid (by simp [dv]), hb0⟩
  case round =>
    obtain ⟨k, zs, hk, rfl, HL, hzs, hdz, HZ, HE, hbel⟩ := hrel
    by_cases hlt : k < X.length
    · obtain ⟨gx, ox, rfl, hgx, hcx⟩ := hX.2 (by omega)
      have hcx' := (hbel.cell (p := ⟨gx, ox + k, none⟩) hgx).trans (hcx k hlt)
      obtain ⟨x, hx⟩ : ∃ x, x = X.getD k 0 := ⟨_, rfl⟩
      have hx32 : x < 4294967296 := by rw [hx]; exact hX.1.at k
      rw [← hx] at hcx'
      have hfr := hdz.frozen k
      have hfr1 := hdz.frozen (k + 1)
      have hcz := hdz.cell k (by have := HL.out; omega)
      have hcz1 := hdz.cell (k + 1) (by have := HL.out; omega)
      obtain ⟨z, hz⟩ : ∃ z, z = zs.getD k 0 := ⟨_, rfl⟩
      obtain ⟨z1, hz1d⟩ : ∃ z, z = zs.getD (k + 1) 0 := ⟨_, rfl⟩
      rw [← hz] at hcz
      rw [← hz1d] at hcz1
      obtain ⟨wd, hwd⟩ : ∃ wd, wd = x * 2 ^ s := ⟨_, rfl⟩
      have hp := pow_le31 hs
      have hwd64 : wd ≤ 9223372034707292160 := by
        rw [hwd]; exact Nat.mul_le_mul (show x ≤ 4294967295 by omega) hp
      have hzs2 : z < 2 ^ s := by rw [hz]; exact HZ.out
      have hor := shl_or hs hx32 hzs2 hwd
      have hw : IntKind.u64.wrap ((x : Int) * 2 ^ s) = (wd : Int) := by
        rw [show ((x : Int) * 2 ^ s) = (wd : Int) from by rw [hwd]; simp, IntKind.wrap_u64]; omega
      have hst := shl_step (zs := zs) (X := X) (k := k) (s := 2 ^ s) (lo := wd % 4294967296) (hi := wd / 4294967296) (z := z) (by have := HL.out; omega) (by rw [hz]; exact HE.out) (by rw [← hx, ← hwd]; unfold B32; omega)
      have HST := Lib.hid hst
      have HOR := Lib.hid hor
      have HW := Lib.hid hw
      have HWD := Lib.hid hwd64
      have HP := Lib.hid hp
      clear hp hx hz hz1d hcx hwd hst hor hw hzs2
      go_wp2
      go_roundw
      case rel =>
        refine ⟨k + 1, (zs.set k (z + wd % 4294967296)).set (k + 1) (wd / 4294967296), by omega, by go_num, Lib.hid (by have := HL.out; simpa using this), (hzs.set _ _ HOR.out.2.1).set _ _ (by have := HWD.out; unfold B32; omega), ?_, Lib.hid ?_, Lib.hid ?_, (hbel.setCell (Nat.le_refl _) _).setCell (Nat.le_refl _) _⟩
        · rw [HW.out, HOR.out.1, show ((wd : Int) / 4294967296 % 4294967296) = ((wd / 4294967296 : Nat) : Int) from by have := HWD.out; omega]
          exact (hdz.set _ _).set _ _
        · rw [HST.out.2]; exact HOR.out.2.2
        · rw [HST.out.2]; exact HST.out.1
      case measure => simp [intOf]; omega
    · have hke : k = X.length := by omega
      have HLAST := Lib.hid (shl_last (n := X.length) HL.out rfl (by rw [← hke]; exact HE.out))
      clear hke
      go_wp2
      go_ret
      exact ⟨zs, by rw [HL.out]; rfl, HL.out, hzs, hdz, HLAST.out, hbel⟩

theorem dv_div_pow {X : List Nat} (hs : Small X) (k : Nat) (h : k ≤ X.length) : dv B32 X / B32 ^ k = dv B32 (X.drop k) := by
  rw [dv_split B32 X k h]
  have := (hs.take k).dv_lt
  rw [List.length_take, Nat.min_eq_left h] at this
  rw [Nat.add_mul_div_left _ _ (Nat.pow_pos (by decide)), Nat.div_eq_of_lt this, Nat.zero_add]
theorem dv_drop' (B : Nat) (xs : List Nat) (k : Nat) : dv B (xs.drop k) = xs.getD k 0 + B * dv B (xs.drop (k + 1)) := by
  rcases Nat.lt_or_ge k xs.length with h | h
  · rw [List.drop_eq_getElem_cons h, dv_cons]
    simp [List.getD_eq_getElem?_getD, List.getElem?_eq_getElem h]
  · rw [List.drop_eq_nil_of_le h, List.drop_eq_nil_of_le (by omega), List.getD_eq_getElem?_getD, List.getElem?_eq_none h]
    simp [dv]
theorem shr_digit {X : List Nat} {k s : Nat} (hs : s < 32) (hX : Small X) (hk : k ≤ X.length) : dv B32 X / 2 ^ s / B32 ^ k % B32 = (X.getD k 0 + X.getD (k + 1) 0 * B32) / 2 ^ s % B32 := by
  obtain ⟨u, hu⟩ := pow32 hs
  have hpos : 0 < 2 ^ s := Nat.pow_pos (by decide)
  rw [Nat.div_div_eq_div_mul, Nat.mul_comm (2 ^ s), ← Nat.div_div_eq_div_mul, dv_div_pow hX k hk, dv_drop', dv_drop' B32 X (k + 1)]
  generalize X.getD k 0 = x
  generalize X.getD (k + 1) 0 = y
  generalize dv B32 (X.drop (k + 1 + 1)) = r
  have e : x + B32 * (y + B32 * r) = x + y * B32 + 2 ^ s * (B32 * (u * r)) := by
    have hb : B32 = 2 ^ s * u := hu
    have h1 : B32 * (B32 * r) = 2 ^ s * (B32 * (u * r)) := by
      conv => lhs; lhs; rw [hb]
      grind
    rw [Nat.mul_add, h1, Nat.mul_comm y]; omega
  rw [e, Nat.add_mul_div_left _ _ hpos, Nat.add_mul_mod_self_left]
theorem shr_step {X zs : List Nat} {k s d : Nat} (hs : s < 32) (hX : Small X) (hk : k < X.length) (hz : k < zs.length) (h : dv B32 (zs.take k) = dv B32 X / 2 ^ s % B32 ^ k) (hd : d = (X.getD k 0 + X.getD (k + 1) 0 * B32) / 2 ^ s % B32) :
    dv B32 ((zs.set k d).take (k + 1)) = dv B32 X / 2 ^ s % B32 ^ (k + 1) := by
  rw [dv_set_next _ _ _ _ hz, h, Nat.pow_succ, Nat.mod_mul, hd, shr_digit hs hX (by omega)]
theorem shr_last {X zs : List Nat} {s : Nat} (hX : Small X) (hz : zs.length = X.length) (h : dv B32 (zs.take X.length) = dv B32 X / 2 ^ s % B32 ^ X.length) : dv B32 zs = dv B32 X / 2 ^ s := by
  rw [dv_take_all _ _ _ (by omega)] at h
  rw [h]
  exact Nat.mod_eq_of_lt (Nat.lt_of_le_of_lt (Nat.div_le_self _ _) hX.dv_lt)

set_option maxHeartbeats 1000000 in
set_option maxRecDepth 100000 in
theorem shr_any (A : Option Addr) (X : List Nat) (cx s : Nat) (w : World) (hX : IsD w A X) (hs : s < 32) (hm : X.length ≤ 1000) :
    Calls Tryz.prog 107 #[.slice A X.length cx, .int .i64 s] w (MadeD w X.length (dv B32 X / 2 ^ s)) := by
  obtain ⟨i0, hi0, hz0, hz1, hz2⟩ := info_parts info_u32
  go_enter Tryz.func107, Tryz.ntmps107
  go_wp2_with (at_make; refine wpList_make_full _ rfl _ _ 98 rfl w.heap.size 124 i0 (.int .u32 0) 1 Tryz.underlying98 hi0 hz0 hz1 _ _ _ _ X.length rfl rfl (by omega) (by omega) (by rw [hz2]; omega) (by unfold maxLen; omega) (Nat.le_refl _) ?_; intro w0 hown0 hgrow0)
  have hb0 : Below w.heap.size w w0 := (Below.refl _ _).grown hgrow0 (Nat.le_refl _) (fun g hg => by cases hg)
  rw [madeD] at hown0
  have hd0 := Dg.of_own hown0
  clear hown0 hgrow0
  go_loopw [13] (fun i wr => ∃ (k : Nat) (zs : List Nat), k ≤ X.length ∧ i = .int .i64 k ∧ Hid (zs.length = X.length) ∧ Small zs ∧ Dg wr w.heap.size zs ∧ Hid (dv B32 (zs.take k) = dv B32 X / 2 ^ s % B32 ^ k) ∧ Below w.heap.size w wr) (fun i _ => X.length - (intOf i).toNat)
  case atStart => exact ⟨0, _, Nat.zero_le _, rfl, Lib.hid List.length_replicate, Small.replicate _, hd0, Lib.hid (by simp [dv, Nat.mod_one]), hb0⟩
  case round =>
    obtain ⟨k, zs, hk, rfl, HL, hzs, hdz, HE, hbel⟩ := hrel
    by_cases hlt : k < X.length
    · obtain ⟨gx, ox, rfl, hgx, hcx⟩ := hX.2 (by omega)
      have hcx' := (hbel.cell (p := ⟨gx, ox + k, none⟩) hgx).trans (hcx k hlt)
      obtain ⟨x, hx⟩ : ∃ x, x = X.getD k 0 := ⟨_, rfl⟩
      have hx32 : x < 4294967296 := by rw [hx]; exact hX.1.at k
      rw [← hx] at hcx'
      have hfr := hdz.frozen k
      have hcz := hdz.cell k (by have := HL.out; omega)
      obtain ⟨z, hz⟩ : ∃ z, z = zs.getD k 0 := ⟨_, rfl⟩
      rw [← hz] at hcz
      by_cases hk1 : k + 1 < X.length
      · have hcy' := (hbel.cell (p := ⟨gx, ox + (k + 1), none⟩) hgx).trans (hcx (k + 1) hk1)
        obtain ⟨y, hy⟩ : ∃ y, y = X.getD (k + 1) 0 := ⟨_, rfl⟩
        have hy32 : y < 4294967296 := by rw [hy]; exact hX.1.at (k + 1)
        rw [← hy] at hcy'
        obtain ⟨t, ht⟩ : ∃ t, t = x + y * 4294967296 := ⟨_, rfl⟩
        have hor : bits BinOp.or IntKind.u64 (x : Int) ((y : Int) * 4294967296) = (t : Int) := by
          rw [show ((y : Int) * 4294967296) = ((y * 4294967296 : Nat) : Int) from by omega, u64_or_nat _ _ (by omega) (by omega), Nat.or_comm, nat_join 32 _ _ (by omega) hx32, Nat.add_comm, ht]
        have hst := shr_step (d := t / 2 ^ s % 4294967296) hs hX.1 hlt (by have := HL.out; omega) HE.out (by rw [ht, hx, hy]; rfl)
        have HST := Lib.hid hst
        clear hst hx hz hcx hy ht
        go_wp2
        go_roundw
        case rel => exact ⟨k + 1, zs.set k (t / 2 ^ s % 4294967296), by omega, by go_num, Lib.hid (by have := HL.out; simpa using this), hzs.set _ _ (Nat.mod_lt _ (by decide)), by rw [show ((t : Int) / 2 ^ s % 4294967296) = ((t / 2 ^ s % 4294967296 : Nat) : Int) from by simp]; exact hdz.set _ _, HST, hbel.setCell (Nat.le_refl _) _⟩
        case measure => simp [intOf]; omega
      · have hy0 : X.getD (k + 1) 0 = 0 := by rw [List.getD_eq_getElem?_getD, List.getElem?_eq_none (by omega)]; rfl
        have hst := shr_step (d := x / 2 ^ s % 4294967296) hs hX.1 hlt (by have := HL.out; omega) HE.out (by rw [hy0, ← hx]; simp [B32])
        have HST := Lib.hid hst
        clear hst hx hz hcx hy0
        go_wp2
        go_roundw
        case rel => exact ⟨k + 1, zs.set k (x / 2 ^ s % 4294967296), by omega, by go_num, Lib.hid (by have := HL.out; simpa using this), hzs.set _ _ (Nat.mod_lt _ (by decide)), by rw [show ((x : Int) / 2 ^ s % 4294967296) = ((x / 2 ^ s % 4294967296 : Nat) : Int) from by simp]; exact hdz.set _ _, HST, hbel.setCell (Nat.le_refl _) _⟩
        case measure => simp [intOf]; omega
    · have hke : k = X.length := by omega
      have HLAST := Lib.hid (shr_last hX.1 HL.out (by rw [← hke]; exact HE.out))
      clear hke
      go_wp2
      go_ret
      exact ⟨zs, by rw [HL.out]; rfl, HL.out, hzs, hdz, HLAST.out, hbel⟩

theorem shl_at (A : Option Addr) (X : List Nat) (n cx s : Nat) (w : World) (hX : IsD w A X) (hs : s < 32) (hn : X.length = n) (hm : n ≤ 1000) :
    Calls Tryz.prog 105 #[.slice A n cx, .int .i64 s] w (MadeD w (n + 1) (dv B32 X * 2 ^ s)) := by
  subst hn; exact shl_any A X cx s w hX hs hm
theorem shr_at (A : Option Addr) (X : List Nat) (n cx s : Nat) (w : World) (hX : IsD w A X) (hs : s < 32) (hn : X.length = n) (hm : n ≤ 1000) :
    Calls Tryz.prog 107 #[.slice A n cx, .int .i64 s] w (MadeD w n (dv B32 X / 2 ^ s)) := by
  subst hn; exact shr_any A X cx s w hX hs hm
end Go.Proofs.YtmiafkbjmkaebaaGreat

namespace Go.Proofs.YtmiafkbjmkaebaaGreat
open Num

/-- The two highest digits, and what lies below them. -/
theorem dv_high1 (Y : List Nat) (n : Nat) (h : Y.length = n + 1) (hs : Small Y) : ∃ l, l < B32 ^ n ∧ dv B32 Y = Y.getD n 0 * B32 ^ n + l := by
  refine ⟨dv B32 (Y.take n), ?_, ?_⟩
  · have := (hs.take n).dv_lt
    rwa [List.length_take, Nat.min_eq_left (by omega)] at this
  · have := dv_take_next B32 Y n
    rw [dv_take_all _ _ _ (by omega)] at this
    rw [this, Nat.mul_comm (Y.getD n 0)]; omega
theorem dv_high2 (Y : List Nat) (n : Nat) (h : Y.length = n + 2) (hs : Small Y) : ∃ l, l < B32 ^ n ∧ dv B32 Y = (Y.getD (n + 1) 0 * B32 + Y.getD n 0) * B32 ^ n + l := by
  refine ⟨dv B32 (Y.take n), ?_, ?_⟩
  · have := (hs.take n).dv_lt
    rwa [List.length_take, Nat.min_eq_left (by omega)] at this
  · have h1 := dv_take_next B32 Y n
    have h2 := dv_take_next B32 Y (n + 1)
    rw [dv_take_all _ _ _ (by omega)] at h2
    rw [h2, h1, Nat.pow_succ]; grind
theorem dv_high3 (Y : List Nat) (n : Nat) (h : Y.length = n + 3) (hs : Small Y) : ∃ l, l < B32 ^ n ∧ dv B32 Y = ((Y.getD (n + 2) 0 * B32 + Y.getD (n + 1) 0) * B32 + Y.getD n 0) * B32 ^ n + l := by
  refine ⟨dv B32 (Y.take n), ?_, ?_⟩
  · have := (hs.take n).dv_lt
    rwa [List.length_take, Nat.min_eq_left (by omega)] at this
  · have h1 := dv_take_next B32 Y n
    have h2 := dv_take_next B32 Y (n + 1)
    have h3 := dv_take_next B32 Y (n + 2)
    rw [dv_take_all _ _ _ (by omega)] at h3
    rw [h3, h2, h1, Nat.pow_succ, Nat.pow_succ]; grind

theorem mul_lt_of_parts {q a b p l m : Nat} (h : q * (a * p + l) ≤ b * p + m) (hm : m < p) : q * a ≤ b := by
  have h1 : q * a * p ≤ q * (a * p + l) := by rw [Nat.mul_add, Nat.mul_assoc]; omega
  have h2 : q * a * p < (b + 1) * p := by rw [Nat.add_mul]; omega
  have := Nat.lt_of_mul_lt_mul_right h2
  omega

/-- The guess is not below the quotient. -/
theorem guess_start {R Y : List Nat} {n : Nat} (hR : R.length = n + 3) (hY : Y.length = n + 2) (hRs : Small R) (hYs : Small Y) (hv : 0 < Y.getD (n + 1) 0) :
    dv B32 R / dv B32 Y ≤ (R.getD (n + 2) 0 * B32 + R.getD (n + 1) 0) / Y.getD (n + 1) 0 := by
  obtain ⟨l, _, hl2⟩ := dv_high1 Y (n + 1) hY hYs
  obtain ⟨m, hm1, hm2⟩ := dv_high2 R (n + 1) (by omega) hRs
  rw [Nat.le_div_iff_mul_le hv]
  refine mul_lt_of_parts (p := B32 ^ (n + 1)) (l := l) (m := m) ?_ hm1
  rw [← hl2, ← hm2]
  exact Nat.div_mul_le_self _ _

theorem guess_next {R Y : List Nat} {n g left : Nat} (hR : R.length = n + 3) (hY : Y.length = n + 2) (hRs : Small R) (hYs : Small Y)
    (hlt : dv B32 R < B32 * dv B32 Y) (hq : dv B32 R / dv B32 Y ≤ g) (hg : g * Y.getD (n + 1) 0 + left = R.getD (n + 2) 0 * B32 + R.getD (n + 1) 0)
    (hc : B32 ≤ g ∨ left * B32 + R.getD n 0 < g * Y.getD n 0) : dv B32 R / dv B32 Y ≤ g - 1 ∧ 0 < g := by
  have h1 : dv B32 R / dv B32 Y < g := by
    rcases hc with hc | hc
    · have : dv B32 R / dv B32 Y < B32 := by
        rw [Nat.div_lt_iff_lt_mul]
        · exact hlt
        · rcases Nat.eq_zero_or_pos (dv B32 Y) with h | h
          · rw [h] at hlt; omega
          · exact h
      omega
    · rcases Nat.lt_or_eq_of_le hq with h | h
      · exact h
      · exfalso
        obtain ⟨l, _, hl2⟩ := dv_high2 Y n hY hYs
        obtain ⟨m, hm1, hm2⟩ := dv_high3 R n hR hRs
        have h2 : g * (Y.getD (n + 1) 0 * B32 + Y.getD n 0) ≤ (R.getD (n + 2) 0 * B32 + R.getD (n + 1) 0) * B32 + R.getD n 0 := by
          refine mul_lt_of_parts (p := B32 ^ n) (l := l) (m := m) ?_ hm1
          rw [← hl2, ← hm2, ← h]
          exact Nat.div_mul_le_self _ _
        rw [← hg, Nat.mul_add, Nat.add_mul, Nat.mul_assoc] at h2
        omega
  generalize dv B32 R / dv B32 Y = q at *
  exact ⟨by omega, by omega⟩

theorem guess_top {R Y : List Nat} {n : Nat} (hR : R.length = n + 3) (hY : Y.length = n + 2) (hRs : Small R) (hYs : Small Y) (hlt : dv B32 R < B32 * dv B32 Y) : R.getD (n + 2) 0 ≤ Y.getD (n + 1) 0 := by
  obtain ⟨l, hl1, hl2⟩ := dv_high1 Y (n + 1) hY hYs
  obtain ⟨m, _, hm2⟩ := dv_high1 R (n + 2) hR hRs
  rw [hl2, hm2] at hlt
  have h1 : R.getD (n + 2) 0 * B32 ^ (n + 2) < (Y.getD (n + 1) 0 + 1) * B32 ^ (n + 2) := by
    have e : B32 ^ (n + 2) = B32 * B32 ^ (n + 1) := by rw [Nat.pow_succ (n := B32), Nat.mul_comm]
    have h2 : B32 * (Y.getD (n + 1) 0 * B32 ^ (n + 1) + l) < B32 * ((Y.getD (n + 1) 0 + 1) * B32 ^ (n + 1)) := Nat.mul_lt_mul_of_pos_left (by rw [Nat.add_mul]; omega) (by decide)
    have h3 : B32 * ((Y.getD (n + 1) 0 + 1) * B32 ^ (n + 1)) = (Y.getD (n + 1) 0 + 1) * B32 ^ (n + 2) := by rw [e]; grind
    omega
  have := Nat.lt_of_mul_lt_mul_right h1
  omega

/-- The guess is at most one too large. -/
theorem guess_end {R Y : List Nat} {n g left : Nat} (hR : R.length = n + 3) (hY : Y.length = n + 2) (hRs : Small R) (hYs : Small Y) (hv : 0 < Y.getD (n + 1) 0)
    (hg : g * Y.getD (n + 1) 0 + left = R.getD (n + 2) 0 * B32 + R.getD (n + 1) 0) (hb : g < B32) (hc : g * Y.getD n 0 ≤ left * B32 + R.getD n 0) : g ≤ dv B32 R / dv B32 Y + 1 := by
  obtain ⟨l, hl1, hl2⟩ := dv_high2 Y n hY hYs
  obtain ⟨m, hm1, hm2⟩ := dv_high3 R n hR hRs
  have hYpos : 0 < dv B32 Y := by
    rw [hl2]
    have : 0 < (Y.getD (n + 1) 0 * B32 + Y.getD n 0) * B32 ^ n := Nat.mul_pos (by have : 0 < Y.getD (n + 1) 0 * B32 := Nat.mul_pos hv (by decide); omega) (Nat.pow_pos (by decide))
    omega
  rcases Nat.eq_zero_or_pos g with rfl | hg0
  · exact Nat.zero_le _
  obtain ⟨k, rfl⟩ : ∃ k, g = k + 1 := ⟨g - 1, by omega⟩
  have : k ≤ dv B32 R / dv B32 Y := by
    rw [Nat.le_div_iff_mul_le hYpos]
    have hD : B32 ≤ Y.getD (n + 1) 0 * B32 + Y.getD n 0 := by
      have : 1 * B32 ≤ Y.getD (n + 1) 0 * B32 := Nat.mul_le_mul_right _ hv
      omega
    have h2 : (k + 1) * (Y.getD (n + 1) 0 * B32 + Y.getD n 0) ≤ (R.getD (n + 2) 0 * B32 + R.getD (n + 1) 0) * B32 + R.getD n 0 := by
      rw [← hg, Nat.mul_add, Nat.add_mul _ _ B32, Nat.mul_assoc]
      omega
    rw [hl2, hm2]
    generalize Y.getD (n + 1) 0 * B32 + Y.getD n 0 = D at *
    generalize (R.getD (n + 2) 0 * B32 + R.getD (n + 1) 0) * B32 + R.getD n 0 = T at *
    generalize B32 ^ n = p at *
    have h3 : k * (D + 1) ≤ T := by
      rw [Nat.add_mul] at h2
      rw [Nat.mul_add]
      omega
    have h4 : k * (D * p + l) ≤ k * ((D + 1) * p) := Nat.mul_le_mul_left _ (by rw [Nat.add_mul]; omega)
    have h5 : k * ((D + 1) * p) ≤ T * p := by rw [← Nat.mul_assoc]; exact Nat.mul_le_mul_right _ h3
    omega
  exact Nat.succ_le_succ this

theorem getD_mid (P R S : List Nat) (k : Nat) (h : k < R.length) : (P ++ R ++ S).getD (P.length + k) 0 = R.getD k 0 := by
  simp only [List.getD_eq_getElem?_getD]
  rw [List.append_assoc, List.getElem?_append_right (by omega), List.getElem?_append_left (by omega)]
  congr 2
  omega
theorem set_mid (P R S : List Nat) (k d : Nat) (h : k < R.length) : (P ++ R ++ S).set (P.length + k) d = P ++ R.set k d ++ S := by
  rw [List.append_assoc, List.set_append_right _ _ (by omega), List.set_append_left _ _ (by omega), List.append_assoc]
  congr 3
  omega

end Go.Proofs.YtmiafkbjmkaebaaGreat

namespace Go.Proofs.YtmiafkbjmkaebaaGreat
open Num

/-- The state of the long division: a digits of the quotient are still to come. -/
def LongDiv (W zs : List Nat) (a U V : Nat) : Prop := dv B32 W + B32 ^ a * dv B32 (zs.drop a) * V = U ∧ dv B32 (W.drop a) < V

theorem long_start {W zs : List Nat} {X n L M s y : Nat} (hW : W.length = M + 1) (hWs : Small W) (hz : zs.length = L) (hL : L + (n + 1) = M) (hX : X < B32 ^ M) (hWv : dv B32 W = X * 2 ^ s) (hy : B32 ^ (n + 1) ≤ y) : LongDiv W zs L (X * 2 ^ s) (y * 2 ^ s) := by
  refine ⟨by rw [List.drop_eq_nil_of_le (by omega), hWv]; simp [dv], ?_⟩
  rw [← dv_div_pow hWs L (by omega), hWv, Nat.div_lt_iff_lt_mul (Nat.pow_pos (by decide))]
  have h1 : X * 2 ^ s < B32 ^ M * 2 ^ s := Nat.mul_lt_mul_of_pos_right hX (Nat.pow_pos (by decide))
  have h2 : B32 ^ M * 2 ^ s ≤ y * 2 ^ s * B32 ^ L := by
    rw [← hL, Nat.pow_add, Nat.mul_comm (B32 ^ L), Nat.mul_assoc, Nat.mul_comm (B32 ^ L), ← Nat.mul_assoc]
    exact Nat.mul_le_mul_right _ (Nat.mul_le_mul_right _ hy)
  omega

/-- The part of the digits that one step divides. -/
theorem long_part {W zs : List Nat} {t n U V : Nat} (h : LongDiv W zs (t + 1) U V) (hWs : Small W) (hV : V < B32 ^ (n + 2)) (hl : t + (n + 3) ≤ W.length) :
    ∃ R S, W = W.take t ++ R ++ S ∧ R.length = n + 3 ∧ Small R ∧ dv B32 S = 0 ∧ dv B32 R < B32 * V ∧ dv B32 R = dv B32 (W.drop t) := by
  refine ⟨(W.drop t).take (n + 3), W.drop (t + (n + 3)), ?_, ?_, (hWs.drop t).take _, ?_⟩
  · rw [List.append_assoc, ← List.drop_drop, List.take_append_drop, List.take_append_drop]
  · rw [List.length_take, List.length_drop]; omega
  · have h1 : dv B32 (W.drop t) < B32 * V := by
      rw [dv_drop']
      have := hWs.at t
      have h2 := h.2
      have h3 : B32 * (dv B32 (W.drop (t + 1)) + 1) ≤ B32 * V := Nat.mul_le_mul_left _ h2
      rw [Nat.mul_add] at h3
      omega
    have h2 := dv_split B32 (W.drop t) (n + 3) (by rw [List.length_drop]; omega)
    rw [List.drop_drop] at h2
    have h4 : B32 * V < B32 ^ (n + 3) := by
      rw [Nat.pow_succ, Nat.mul_comm]; exact Nat.mul_lt_mul_of_pos_right hV (by decide)
    have h5 : dv B32 (W.drop (t + (n + 3))) = 0 := by
      rcases Nat.eq_zero_or_pos (dv B32 (W.drop (t + (n + 3)))) with g | g
      · exact g
      · have : B32 ^ (n + 3) * 1 ≤ B32 ^ (n + 3) * dv B32 (W.drop (t + (n + 3))) := Nat.mul_le_mul_left _ g
        omega
    rw [h5] at h2
    exact ⟨h5, by omega, by omega⟩

theorem long_step {W zs P R R' S : List Nat} {t n U V q : Nat} (h : LongDiv W zs (t + 1) U V) (hW : W = P ++ R ++ S) (hP : P.length = t) (hR : R.length = n + 3) (hR' : R'.length = n + 3) (hS : dv B32 S = 0)
    (hz : t < zs.length) (hq : q = dv B32 R / V) (hr : dv B32 R' = dv B32 R % V) (hV : 0 < V) : LongDiv (P ++ R' ++ S) (zs.set t q) t U V := by
  obtain ⟨h1, _⟩ := h
  have hd : (P ++ R' ++ S).drop t = R' ++ S := by rw [List.append_assoc, ← hP, List.drop_left]
  constructor
  · have e1 : dv B32 ((zs.set t q).drop t) = q + B32 * dv B32 (zs.drop (t + 1)) := by
      rw [dv_drop', List.drop_set_of_lt (by omega)]
      simp [List.getD_eq_getElem?_getD, hz]
    rw [e1]
    rw [hW] at h1
    simp only [dv_append, hS, hR, hR', hP, Nat.mul_zero, Nat.add_zero, List.length_append] at h1 ⊢
    have hdm := Nat.div_add_mod (dv B32 R) V
    rw [← hq, ← hr] at hdm
    rw [← h1, ← hdm, Nat.pow_succ]
    grind
  · rw [hd, dv_append, hS, Nat.mul_zero, Nat.add_zero, hr]
    exact Nat.mod_lt _ hV

theorem long_end {W zs : List Nat} {X y s n : Nat} (h : LongDiv W zs 0 (X * 2 ^ s) (y * 2 ^ s)) (hV : y * 2 ^ s < B32 ^ (n + 2)) (hl : n + 2 ≤ W.length) :
    dv B32 zs = X / y ∧ dv B32 (W.take (n + 2)) / 2 ^ s = X % y := by
  obtain ⟨h1, h2⟩ := h
  rw [List.drop_zero, Nat.pow_zero, Nat.one_mul] at h1
  rw [List.drop_zero] at h2
  have hp : 0 < 2 ^ s := Nat.pow_pos (by decide)
  have hq : X * 2 ^ s / (y * 2 ^ s) = dv B32 zs := by
    rw [← h1, Nat.mul_comm (dv B32 zs), Nat.add_mul_div_left _ _ (by omega), Nat.div_eq_of_lt h2, Nat.zero_add]
  have hr : X * 2 ^ s % (y * 2 ^ s) = dv B32 W := by
    rw [← h1, Nat.mul_comm (dv B32 zs), Nat.add_mul_mod_self_left, Nat.mod_eq_of_lt h2]
  have ht : dv B32 (W.take (n + 2)) = dv B32 W := by
    have h3 := dv_split B32 W (n + 2) hl
    rcases Nat.eq_zero_or_pos (dv B32 (W.drop (n + 2))) with g | g
    · rw [g] at h3; omega
    · have : B32 ^ (n + 2) * 1 ≤ B32 ^ (n + 2) * dv B32 (W.drop (n + 2)) := Nat.mul_le_mul_left _ g
      omega
  rw [ht, ← hr, ← hq]
  constructor
  · rw [Nat.mul_div_mul_right _ _ hp]
  · rw [Nat.mul_mod_mul_right, Nat.mul_div_cancel _ hp]

/-- Trimmed digits: the highest one is not 0. -/
def Trim (X : List Nat) : Prop := X = [] ∨ X.getD (X.length - 1) 0 ≠ 0
theorem trim_ge {X : List Nat} (h : Trim X) (hl : 0 < X.length) : B32 ^ (X.length - 1) ≤ dv B32 X := by
  rcases h with rfl | h
  · simp at hl
  · have := dv_ge B32 X (X.length - 1)
    have h2 : B32 ^ (X.length - 1) * 1 ≤ B32 ^ (X.length - 1) * X.getD (X.length - 1) 0 := Nat.mul_le_mul_left _ (by omega)
    omega
theorem trim_lt {X Y : List Nat} (hX : Small X) (hY : Trim Y) (h : X.length < Y.length) : dv B32 X < dv B32 Y := by
  have h1 := hX.dv_lt
  have h2 := trim_ge hY (by omega)
  have h3 : B32 ^ X.length ≤ B32 ^ (Y.length - 1) := Nat.pow_le_pow_right (by decide) (by omega)
  omega

end Go.Proofs.YtmiafkbjmkaebaaGreat

namespace Go.Proofs.YtmiafkbjmkaebaaGreat
open Go.RowKit Num

/-- The guess: the digit of the quotient, or one more. -/
def Guess (w : World) (R Y : List Nat) (e : Ending) (w' : World) : Prop :=
  ∃ g : Nat, e = .returned (.int .u64 g) ∧ dv B32 R / dv B32 Y ≤ g ∧ g ≤ dv B32 R / dv B32 Y + 1 ∧ g < 4294967296 ∧ Below w.heap.size w w'

set_option maxHeartbeats 1000000 in
set_option maxRecDepth 100000 in
theorem guess_any (A B : Option Addr) (R Y : List Nat) (n cr cy : Nat) (w : World) (hR : IsD w A R) (hY : IsD w B Y) (hRl : R.length = n + 3) (hYl : Y.length = n + 2) (hn : n ≤ 1000)
    (hlt : dv B32 R < B32 * dv B32 Y) (hv : 0 < Y.getD (n + 1) 0) :
    Calls Tryz.prog 127 #[.slice A (n + 3) cr, .slice B (n + 2) cy] w (Guess w R Y) := by
  obtain ⟨gr, orr, rfl, hgr, hcr⟩ := hR.2 (by omega)
  obtain ⟨gy, oy, rfl, hgy, hcy⟩ := hY.2 (by omega)
  have k0 := hcr n (by omega)
  have k1 := hcr (n + 1) (by omega)
  have k2 := hcr (n + 2) (by omega)
  have j0 := hcy n (by omega)
  have j1 := hcy (n + 1) (by omega)
  have s0 := hR.1.at n
  have s1 := hR.1.at (n + 1)
  have s2 := hR.1.at (n + 2)
  have t0 := hY.1.at n
  have t1 := hY.1.at (n + 1)
  have hst := guess_start hRl hYl hR.1 hY.1 hv
  have htp := guess_top hRl hYl hR.1 hY.1 hlt
  have hnx := fun (g l : Nat) => guess_next (g := g) (left := l) hRl hYl hR.1 hY.1 hlt
  have hen := fun (g l : Nat) => guess_end (g := g) (left := l) hRl hYl hR.1 hY.1 hv
  generalize R.getD n 0 = r0 at *
  generalize R.getD (n + 1) 0 = r1 at *
  generalize R.getD (n + 2) 0 = r2 at *
  generalize Y.getD n 0 = y0 at *
  generalize Y.getD (n + 1) 0 = v at *
  unfold B32 at s0 s1 s2 t0 t1
  have HST := Lib.hid hst
  have HNX := Lib.hid hnx
  have HEN := Lib.hid hen
  clear hst hnx hen hcr hcy hlt hR hY hRl hYl
  obtain ⟨top, htop⟩ : ∃ top, top = r2 * 4294967296 + r1 := ⟨_, rfl⟩
  have hor : bits BinOp.or IntKind.u64 ((r2 : Int) * 4294967296) (r1 : Int) = (top : Int) := by
    rw [show ((r2 : Int) * 4294967296) = ((r2 * 4294967296 : Nat) : Int) from by omega, or_join 32 _ _ (by omega) s1 (by omega), htop]
  obtain ⟨g0, hg0⟩ : ∃ g0, g0 = top / v := ⟨_, rfl⟩
  obtain ⟨l0, hl0⟩ : ∃ l0, l0 = top % v := ⟨_, rfl⟩
  have hdiv : (top : Int) / (v : Int) = (g0 : Int) := by rw [hg0]; rfl
  have hmod : (top : Int) % (v : Int) = (l0 : Int) := by rw [hl0]; rfl
  have hgl : g0 * v + l0 = top := by rw [hg0, hl0, Nat.mul_comm]; exact Nat.div_add_mod top v
  have hl1 : l0 < v := by rw [hl0]; exact Nat.mod_lt _ hv
  have htop64 : top ≤ 18446744073709551615 := by omega
  have hgt : g0 ≤ top := by rw [hg0]; exact Nat.div_le_self _ _
  have HTOP := Lib.hid htop
  have HG0 := Lib.hid hg0
  have HGL := Lib.hid hgl
  have HMOD := Lib.hid hmod
  clear htop hg0 hl0 hgl hmod
  go_enter Tryz.func127, Tryz.ntmps127
  go_wp2
  go_region
  go_wp2
  go_region
  go_wp2
  have HTB := Lib.hid (show top ≤ v * 4294967296 + 4294967295 by have := HTOP.out; omega)
  go_loopw [7, 8] (fun a b wr => ∃ g l : Nat, a = .int .u64 g ∧ b = .int .u64 l ∧ Hid (g * v + l = top) ∧ Hid (dv B32 R / dv B32 Y ≤ g) ∧ l < 4294967296 ∧ g ≤ 18446744073709551615 ∧ Below w.heap.size w wr) (fun a _ _ => (intOf a).toNat)
  case atStart => exact ⟨g0, l0, rfl, val_int HMOD.out, HGL, Lib.hid (by rw [HG0.out, HTOP.out]; exact HST.out), by omega, by omega, (Below.refl _ _).drew.drew⟩
  case round =>
    obtain ⟨g, l, rfl, rfl, HGL, HQ, hl, hg64, hbel⟩ := hrel
    have k0' := (hbel.cell (p := ⟨gr, orr + n, none⟩) hgr).trans k0
    have j0' := (hbel.cell (p := ⟨gy, oy + n, none⟩) hgy).trans j0
    have j1' := (hbel.cell (p := ⟨gy, oy + (n + 1), none⟩) hgy).trans j1
    by_cases hbig : 4294967295 < g
    · have COND : B32 ≤ g ∨ l * B32 + r0 < g * y0 := .inl hbig
      have hd : decide ((4294967295 : Int) < (g : Int)) = true := by simp; omega
      obtain ⟨hq1, hq2⟩ := HNX.out g l HQ.out (by rw [HGL.out, HTOP.out]; rfl) COND
      have HQ1 := Lib.hid (show dv B32 R / dv B32 Y ≤ g - 1 from hq1)
      have HGL' : Hid ((g - 1) * v + (l + v) = top) := Lib.hid (by
        obtain ⟨g', rfl⟩ : ∃ g', g = g' + 1 := ⟨g - 1, by omega⟩
        have := HGL.out; rw [Nat.succ_mul] at this; rw [Nat.add_sub_cancel]; omega)
      clear hq1 COND
      by_cases hbr : 4294967295 < l + v
      · have hgv : g - 1 < 4294967296 := by
          have h1 := HGL'.out
          apply Decidable.byContradiction
          intro hc
          have h2 : 4294967296 * v ≤ (g - 1) * v := Nat.mul_le_mul_right _ (by omega)
          have h3 := HTB.out
          omega
        have HC : Hid ((g - 1) * y0 ≤ (l + v) * B32 + r0) := Lib.hid (by
          have h1 : (g - 1) * y0 ≤ 4294967295 * 4294967295 := Nat.mul_le_mul (by omega) (by omega)
          have h2 : 4294967296 * B32 ≤ (l + v) * B32 := Nat.mul_le_mul_right _ (by omega)
          unfold B32 at *
          omega)
        go_wp2
        go_quiet (fail)
        go_wp2
        go_ret
        exact ⟨g - 1, ret_int (by omega), HQ1.out, HEN.out (g - 1) (l + v) (by rw [HGL'.out, HTOP.out]; rfl) hgv HC.out, hgv, below_draws hbel _⟩
      · have hbr2 : l + v < 4294967296 := by omega
        go_wp2
        go_quiet (fail)
        go_wp2
        go_roundw
        case rel => exact ⟨g - 1, l + v, val_int (by omega), by go_num, HGL', HQ1, hbr2, by omega, below_draws hbel _⟩
        case measure => simp only [intOf]; omega
    · have hd : decide ((4294967295 : Int) < (g : Int)) = false := by simp; omega
      obtain ⟨p, hp⟩ : ∃ p, p = g * y0 := ⟨_, rfl⟩
      have hpm : (g : Int) * (y0 : Int) = (p : Int) := by rw [hp]; simp
      have hp64 : p ≤ 18446744065119617025 := by
        rw [hp]; exact Nat.mul_le_mul (show g ≤ 4294967295 by omega) (show y0 ≤ 4294967295 by omega)
      obtain ⟨t, ht⟩ : ∃ t, t = l * 4294967296 + r0 := ⟨_, rfl⟩
      have hor : bits BinOp.or IntKind.u64 ((l : Int) * 4294967296) (r0 : Int) = (t : Int) := by
        rw [show ((l : Int) * 4294967296) = ((l * 4294967296 : Nat) : Int) from by omega, or_join 32 _ _ (by omega) s0 (by omega), ht]
      have ht64 : t ≤ 18446744073709551615 := by omega
      have HP := Lib.hid hp
      have HT := Lib.hid ht
      by_cases hpt : t < p
      · have hd2 : decide ((t : Int) < (p : Int)) = true := by simp; omega
        have hd3 : decide (t < p) = true := by simpa using hpt
        have COND : B32 ≤ g ∨ l * B32 + r0 < g * y0 := .inr (by rw [← HP.out]; have := HT.out; unfold B32; omega)
        clear hp ht
        obtain ⟨hq1, hq2⟩ := HNX.out g l HQ.out (by rw [HGL.out, HTOP.out]; rfl) COND
        have HQ1 := Lib.hid (show dv B32 R / dv B32 Y ≤ g - 1 from hq1)
        have HGL' : Hid ((g - 1) * v + (l + v) = top) := Lib.hid (by
          obtain ⟨g', rfl⟩ : ∃ g', g = g' + 1 := ⟨g - 1, by omega⟩
          have := HGL.out; rw [Nat.succ_mul] at this; rw [Nat.add_sub_cancel]; omega)
        clear hq1 COND
        by_cases hbr : 4294967295 < l + v
        · have hgv : g - 1 < 4294967296 := by
            have h1 := HGL'.out
            apply Decidable.byContradiction
            intro hc
            have h2 : 4294967296 * v ≤ (g - 1) * v := Nat.mul_le_mul_right _ (by omega)
            have h3 := HTB.out
            omega
          have HC : Hid ((g - 1) * y0 ≤ (l + v) * B32 + r0) := Lib.hid (by
            have h1 : (g - 1) * y0 ≤ 4294967295 * 4294967295 := Nat.mul_le_mul (by omega) (by omega)
            have h2 : 4294967296 * B32 ≤ (l + v) * B32 := Nat.mul_le_mul_right _ (by omega)
            unfold B32 at *
            omega)
          go_wp2
          go_quiet (fail)
          go_wp2
          go_ret
          exact ⟨g - 1, ret_int (by omega), HQ1.out, HEN.out (g - 1) (l + v) (by rw [HGL'.out, HTOP.out]; rfl) hgv HC.out, hgv, below_draws hbel _⟩
        · have hbr2 : l + v < 4294967296 := by omega
          go_wp2
          go_quiet (fail)
          go_wp2
          go_roundw
          case rel => exact ⟨g - 1, l + v, val_int (by omega), by go_num, HGL', HQ1, hbr2, by omega, below_draws hbel _⟩
          case measure => simp only [intOf]; omega
      · have hd2 : decide ((t : Int) < (p : Int)) = false := by simp; omega
        have hd3 : decide (t < p) = false := by simpa using hpt
        have HC : Hid (g * y0 ≤ l * B32 + r0) := Lib.hid (by rw [← HP.out]; have := HT.out; unfold B32; omega)
        have hgv : g < 4294967296 := by omega
        clear hp ht
        go_wp2
        go_quiet (fail)
        go_wp2
        go_ret
        exact ⟨g, rfl, HQ.out, HEN.out g l (by rw [HGL.out, HTOP.out]; rfl) hgv HC.out, hgv, below_draws hbel _⟩
end Go.Proofs.YtmiafkbjmkaebaaGreat

namespace Go.Proofs.YtmiafkbjmkaebaaGreat
open Go.RowKit Num

/-- The digits of block g from P.length on have turned; no other block has. -/
def Turned (w : World) (g : Nat) (P S : List Nat) (n : Nat) (rs : List Nat) (w' : World) : Prop :=
  rs.length = n ∧ Small rs ∧ Dg w' g (P ++ rs ++ S) ∧ w.grownBy w' (some g)

theorem times_step {R Y rs : List Nat} {k F c b q r lo hi : Nat} (hk : k < rs.length) (h : dv B32 (rs.take k) + F * dv B32 (Y.take k) = dv B32 (R.take k) + B32 ^ k * (c + b))
    (hm : c + F * Y.getD k 0 = lo + B32 * hi) (hr : r + lo + b = R.getD k 0 + B32 * q) :
    dv B32 ((rs.set k r).take (k + 1)) + F * dv B32 (Y.take (k + 1)) = dv B32 (R.take (k + 1)) + B32 ^ (k + 1) * (hi + q) := by
  rw [dv_set_next _ _ _ _ hk, dv_take_next, dv_take_next, Nat.pow_succ]
  generalize R.getD k 0 = x at *
  generalize Y.getD k 0 = y at *
  generalize B32 ^ k = p at *
  have e1 : p * c + p * (F * y) = p * lo + p * B32 * hi := by
    rw [Nat.mul_assoc, ← Nat.mul_add, ← Nat.mul_add, hm]
  have e2 : p * r + p * lo + p * b = p * x + p * B32 * q := by
    rw [Nat.mul_assoc, ← Nat.mul_add, ← Nat.mul_add, ← Nat.mul_add, hr]
  have e3 : F * (dv B32 (Y.take k) + p * y) = F * dv B32 (Y.take k) + p * (F * y) := by grind
  rw [e3]
  rw [Nat.mul_add] at h
  rw [Nat.mul_add]
  omega
theorem times_last {R Y rs : List Nat} {F c b n : Nat} (hrl : rs.length = n) (hRl : R.length = n) (hYl : Y.length ≤ n) (hs : Small rs) (hc : c = 0) (h : dv B32 (rs.take n) + F * dv B32 (Y.take n) = dv B32 (R.take n) + B32 ^ n * (c + b)) :
    dv B32 rs + F * dv B32 Y = dv B32 R + B32 ^ n * b ∧ dv B32 rs < B32 ^ n := by
  rw [dv_take_all _ _ _ (by omega), dv_take_all _ _ _ hYl, dv_take_all _ _ _ (by omega), hc, Nat.zero_add] at h
  have := hs.dv_lt
  rw [hrl] at this
  exact ⟨h, this⟩

/-- subtractTimes: the digits less the product, modulo the numbers of as many digits; whether it would be negative. -/
def Subtracted (w : World) (g : Nat) (P R S Y : List Nat) (F : Nat) (e : Ending) (w' : World) : Prop :=
  ∃ (b : Nat) (rs : List Nat), b ≤ 1 ∧ e = .returned (.bool (b == 1)) ∧ Turned w g P S R.length rs w' ∧ dv B32 rs + F * dv B32 Y = dv B32 R + B32 ^ R.length * b ∧ dv B32 rs < B32 ^ R.length

theorem dif2_lo (x b y : Nat) (hx : x < 4294967296) (hb : b ≤ 1) (hy : y < 4294967296) : IntKind.u64.wrap (IntKind.u64.wrap ((x : Int) - y) - b) % 4294967296 = (((x + 4294967296 - y - b) % 4294967296 : Nat) : Int) := by
  rw [IntKind.wrap_u64, IntKind.wrap_u64]; omega
theorem dif2_hi (x b y : Nat) (hx : x < 4294967296) (hb : b ≤ 1) (hy : y < 4294967296) : IntKind.u64.wrap (IntKind.u64.wrap ((x : Int) - y) - b) / 9223372036854775808 = ((1 - (x + 4294967296 - y - b) / 4294967296 : Nat) : Int) := by
  rw [IntKind.wrap_u64, IntKind.wrap_u64]; omega
theorem mask32 (t : Nat) (h : t < 18446744073709551616) : bits BinOp.and IntKind.u64 (t : Int) 4294967295 = ((t % 4294967296 : Nat) : Int) := by
  have := u64_and_nat t 4294967295 h (by omega)
  rw [Nat.and_two_pow_sub_one_eq_mod t 32] at this
  exact this
theorem getD_set_other (rs : List Nat) {k i d : Nat} (h : k ≠ i) : (rs.set k d).getD i 0 = rs.getD i 0 := by
  simp [List.getD_eq_getElem?_getD, h]

set_option maxHeartbeats 1000000 in
set_option maxRecDepth 100000 in
theorem times_any (g : Nat) (P R S Y : List Nat) (A : Option Addr) (n m cr cy F : Nat) (w : World) (hg : Dg w g (P ++ R ++ S)) (hRs : Small R) (hY : IsD w A Y) (hA : Apart A g) (hRl : R.length = n) (hYl : Y.length = m) (hm0 : 0 < m) (hmn : m < n) (hn : n ≤ 1000) (hF : F < 4294967296) :
    Calls Tryz.prog 128 #[.slice (some ⟨g, P.length, none⟩) n cr, .slice A m cy, .int .u64 F] w (Subtracted w g P R S Y F) := by
  obtain ⟨ga, oa, rfl, hga, hca⟩ := hY.2 (by omega)
  have hAg : ga ≠ g := hA ⟨ga, oa, none⟩ rfl
  have HRl := Lib.hid hRl
  have HYl := Lib.hid hYl
  have HCA := Lib.hid hca
  have HG := Lib.hid hg
  clear hRl hYl hca hA
  go_enter Tryz.func128, Tryz.ntmps128
  go_wp2
  go_loopw [7, 8, 13] (fun a b' i wr => ∃ (k c b : Nat) (rs : List Nat), k ≤ n ∧ i = .int .i64 k ∧ a = .int .u64 c ∧ b' = .int .u64 b ∧ c < 4294967296 ∧ b ≤ 1 ∧ Hid (m < k → c = 0) ∧ Hid (rs.length = n) ∧ Small rs ∧ Dg wr g (P ++ rs ++ S) ∧ Hid (∀ i, k ≤ i → rs.getD i 0 = R.getD i 0) ∧
      Hid (dv B32 (rs.take k) + F * dv B32 (Y.take k) = dv B32 (R.take k) + B32 ^ k * (c + b)) ∧ w.grownBy wr (some g)) (fun _ _ i _ => n - (intOf i).toNat)
  case atStart => exact ⟨0, 0, 0, R, Nat.zero_le _, rfl, rfl, rfl, by omega, by omega, Lib.hid (fun _ => rfl), HRl, hRs, HG.out, Lib.hid (fun _ _ => rfl), Lib.hid (by simp [dv]), World.grownBy.refl _ _⟩
  case round =>
    obtain ⟨k, c, b, rs, hk, rfl, rfl, rfl, hc, hb, HC0, HL, hrs, hdg, HSM, HE, hgr⟩ := hrel
    by_cases hlt : k < n
    · have hkl : k < rs.length := by have := HL.out; omega
      have hcr := hdg.cell (P.length + k) (by simp; omega)
      rw [getD_mid P rs S k hkl, HSM.out k (Nat.le_refl _)] at hcr
      have hfr := hdg.frozen (P.length + k)
      obtain ⟨x, hx⟩ : ∃ x, x = R.getD k 0 := ⟨_, rfl⟩
      have hx32 : x < 4294967296 := by rw [hx]; exact hRs.at k
      rw [← hx] at hcr
      by_cases hkm : k < m
      · have hcy := (grown_cell hgr (p := ⟨ga, oa + k, none⟩) hga hAg).trans (HCA.out k (by have := HYl.out; omega))
        obtain ⟨y, hy⟩ : ∃ y, y = Y.getD k 0 := ⟨_, rfl⟩
        have hy32 : y < 4294967296 := by rw [hy]; exact hY.1.at k
        rw [← hy] at hcy
        obtain ⟨pr, hpr⟩ : ∃ pr, pr = F * y := ⟨_, rfl⟩
        have hpm : (y : Int) * (F : Int) = (pr : Int) := by rw [hpr, Nat.mul_comm]; simp
        have hp64 : pr ≤ 18446744065119617025 := by
          rw [hpr]; exact Nat.mul_le_mul (show F ≤ 4294967295 by omega) (show y ≤ 4294967295 by omega)
        obtain ⟨t, ht⟩ : ∃ t, t = c + pr := ⟨_, rfl⟩
        have ht64 : t < 18446744073709551616 := by omega
        have htc : (c : Int) + (pr : Int) = (t : Int) := by omega
        have hand := mask32 t ht64
        obtain ⟨lo, hlo⟩ : ∃ lo, lo = t % 4294967296 := ⟨_, rfl⟩
        rw [← hlo] at hand
        have hlo32 : lo < 4294967296 := by omega
        have hst := times_step (r := (x + 4294967296 - lo - b) % 4294967296) (q := 1 - (x + 4294967296 - lo - b) / 4294967296) (lo := lo) (hi := t / 4294967296) hkl HE.out (by rw [← hy, ← hpr, ← ht, hlo]; unfold B32; omega) (by rw [← hx]; unfold B32; omega)
        have HST := Lib.hid hst
        have HL1 := Lib.hid (dif2_lo x b lo hx32 hb hlo32)
        have HH1 := Lib.hid (dif2_hi x b lo hx32 hb hlo32)
        have hset := set_mid P rs S k ((x + 4294967296 - lo - b) % 4294967296) hkl
        have HSET := Lib.hid hset
        have HT64 := Lib.hid ht64
        clear hst hset hx hy hpr ht hlo ht64
        go_wp2
        go_roundw
        case rel =>
          refine ⟨k + 1, t / 4294967296, 1 - (x + 4294967296 - lo - b) / 4294967296, rs.set k ((x + 4294967296 - lo - b) % 4294967296), by omega, by go_num, by go_num, val_int HH1.out, by have := HT64.out; omega, by omega, Lib.hid (by omega), Lib.hid (by have := HL.out; simpa using this), hrs.set _ _ (Nat.mod_lt _ (by decide)), ?_, Lib.hid (fun i hi => ?_), HST, grown_set hgr _ _⟩
          · rw [HL1.out, ← HSET.out]; exact hdg.set _ _
          · rw [getD_set_other _ (by omega)]; exact HSM.out i (by omega)
        case measure => simp [intOf]; omega
      · have hand : bits BinOp.and IntKind.u64 (c : Int) 4294967295 = (c : Int) := by
          have := mask32 c (by omega)
          rw [Nat.mod_eq_of_lt hc] at this
          exact this
        have hy0 : Y.getD k 0 = 0 := by rw [List.getD_eq_getElem?_getD, List.getElem?_eq_none (by have := HYl.out; omega)]; rfl
        have hst := times_step (r := (x + 4294967296 - c - b) % 4294967296) (q := 1 - (x + 4294967296 - c - b) / 4294967296) (lo := c) (hi := 0) hkl HE.out (by rw [hy0]; omega) (by rw [← hx]; unfold B32; omega)
        have HST := Lib.hid hst
        have HL1 := Lib.hid (dif2_lo x b c hx32 hb hc)
        have HH1 := Lib.hid (dif2_hi x b c hx32 hb hc)
        have hset := set_mid P rs S k ((x + 4294967296 - c - b) % 4294967296) hkl
        have HSET := Lib.hid hset
        clear hst hset hx hy0
        go_wp2
        go_roundw
        case rel =>
          refine ⟨k + 1, 0, 1 - (x + 4294967296 - c - b) / 4294967296, rs.set k ((x + 4294967296 - c - b) % 4294967296), by omega, by go_num, by go_num, val_int HH1.out, by omega, by omega, Lib.hid (fun _ => rfl), Lib.hid (by have := HL.out; simpa using this), hrs.set _ _ (Nat.mod_lt _ (by decide)), ?_, Lib.hid (fun i hi => ?_), HST, grown_set hgr _ _⟩
          · rw [HL1.out, ← HSET.out]; exact hdg.set _ _
          · rw [getD_set_other _ (by omega)]; exact HSM.out i (by omega)
        case measure => simp [intOf]; omega
    · have hke : k = n := by omega
      subst hke
      have HLAST := Lib.hid (times_last HL.out HRl.out (by have := HYl.out; omega) hrs (HC0.out hmn) HE.out)
      rcases (show b = 0 ∨ b = 1 by omega) with rfl | rfl
      · go_wp2
        go_ret
        exact ⟨0, rs, by omega, rfl, ⟨by rw [HL.out, HRl.out], hrs, hdg, hgr⟩, by rw [HRl.out]; exact HLAST.out.1, by rw [HRl.out]; exact HLAST.out.2⟩
      · go_wp2
        go_ret
        exact ⟨1, rs, by omega, rfl, ⟨by rw [HL.out, HRl.out], hrs, hdg, hgr⟩, by rw [HRl.out]; exact HLAST.out.1, by rw [HRl.out]; exact HLAST.out.2⟩
end Go.Proofs.YtmiafkbjmkaebaaGreat

namespace Go.Proofs.YtmiafkbjmkaebaaGreat
open Go.RowKit Num

theorem back_last {R Y rs : List Nat} {c n : Nat} (hrl : rs.length = n) (hRl : R.length = n) (hYl : Y.length ≤ n) (hs : Small rs) (h : dv B32 (rs.take n) + B32 ^ n * c = dv B32 (R.take n) + dv B32 (Y.take n)) :
    dv B32 rs + B32 ^ n * c = dv B32 R + dv B32 Y ∧ dv B32 rs < B32 ^ n := by
  rw [dv_take_all _ _ _ (by omega), dv_take_all _ _ _ hYl, dv_take_all _ _ _ (by omega)] at h
  have := hs.dv_lt
  rw [hrl] at this
  exact ⟨h, this⟩

/-- addBack: the sum, modulo the numbers of as many digits. -/
def AddedBack (w : World) (g : Nat) (P R S Y : List Nat) (e : Ending) (w' : World) : Prop :=
  ∃ (c : Nat) (rs : List Nat), e = .returned (.tuple #[]) ∧ Turned w g P S R.length rs w' ∧ dv B32 rs + B32 ^ R.length * c = dv B32 R + dv B32 Y ∧ dv B32 rs < B32 ^ R.length

set_option maxHeartbeats 1000000 in
set_option maxRecDepth 100000 in
theorem back_any (g : Nat) (P R S Y : List Nat) (A : Option Addr) (n m cr cy : Nat) (w : World) (hg : Dg w g (P ++ R ++ S)) (hRs : Small R) (hY : IsD w A Y) (hA : Apart A g) (hRl : R.length = n) (hYl : Y.length = m) (hm0 : 0 < m) (hmn : m < n) (hn : n ≤ 1000) :
    Calls Tryz.prog 129 #[.slice (some ⟨g, P.length, none⟩) n cr, .slice A m cy] w (AddedBack w g P R S Y) := by
  obtain ⟨ga, oa, rfl, hga, hca⟩ := hY.2 (by omega)
  have hAg : ga ≠ g := hA ⟨ga, oa, none⟩ rfl
  have HRl := Lib.hid hRl
  have HYl := Lib.hid hYl
  have HCA := Lib.hid hca
  have HG := Lib.hid hg
  clear hRl hYl hca hA
  go_enter Tryz.func129, Tryz.ntmps129
  go_wp2
  go_loopw [4, 8] (fun a i wr => ∃ (k c : Nat) (rs : List Nat), k ≤ n ∧ i = .int .i64 k ∧ a = .int .u64 c ∧ c ≤ 1 ∧ Hid (rs.length = n) ∧ Small rs ∧ Dg wr g (P ++ rs ++ S) ∧ Hid (∀ i, k ≤ i → rs.getD i 0 = R.getD i 0) ∧
      Hid (dv B32 (rs.take k) + B32 ^ k * c = dv B32 (R.take k) + dv B32 (Y.take k)) ∧ w.grownBy wr (some g)) (fun _ i _ => n - (intOf i).toNat)
  case atStart => exact ⟨0, 0, R, Nat.zero_le _, rfl, rfl, by omega, HRl, hRs, HG.out, Lib.hid (fun _ _ => rfl), Lib.hid (by simp [dv]), World.grownBy.refl _ _⟩
  case round =>
    obtain ⟨k, c, rs, hk, rfl, rfl, hc, HL, hrs, hdg, HSM, HE, hgr⟩ := hrel
    by_cases hlt : k < n
    · have hkl : k < rs.length := by have := HL.out; omega
      have hcr := hdg.cell (P.length + k) (by simp; omega)
      rw [getD_mid P rs S k hkl, HSM.out k (Nat.le_refl _)] at hcr
      have hfr := hdg.frozen (P.length + k)
      obtain ⟨x, hx⟩ : ∃ x, x = R.getD k 0 := ⟨_, rfl⟩
      have hx32 : x < 4294967296 := by rw [hx]; exact hRs.at k
      have hst := sum_step hkl HE.out
      rw [← hx] at hcr hst
      by_cases hkm : k < m
      · have hcy := (grown_cell hgr (p := ⟨ga, oa + k, none⟩) hga hAg).trans (HCA.out k (by have := HYl.out; omega))
        obtain ⟨y, hy⟩ : ∃ y, y = Y.getD k 0 := ⟨_, rfl⟩
        have hy32 : y < 4294967296 := by rw [hy]; exact hY.1.at k
        rw [← hy] at hcy hst
        have HST := Lib.hid hst
        have hset := set_mid P rs S k ((c + x + y) % 4294967296) hkl
        have HSET := Lib.hid hset
        clear hst hset hx hy
        go_wp2
        go_roundw
        case rel =>
          refine ⟨k + 1, (c + x + y) / 4294967296, rs.set k ((c + x + y) % 4294967296), by omega, by go_num, by go_num, by omega, Lib.hid (by have := HL.out; simpa using this), hrs.set _ _ (Nat.mod_lt _ (by decide)), ?_, Lib.hid (fun i hi => ?_), HST, grown_set hgr _ _⟩
          · rw [show ((c : Int) + x + y) % 4294967296 = (((c + x + y) % 4294967296 : Nat) : Int) from by omega, ← HSET.out]; exact hdg.set _ _
          · rw [getD_set_other _ (by omega)]; exact HSM.out i (by omega)
        case measure => simp [intOf]; omega
      · have hy0 : Y.getD k 0 = 0 := by rw [List.getD_eq_getElem?_getD, List.getElem?_eq_none (by have := HYl.out; omega)]; rfl
        rw [hy0] at hst
        have HST := Lib.hid hst
        have hset := set_mid P rs S k ((c + x) % 4294967296) hkl
        have HSET := Lib.hid hset
        clear hst hset hx hy0
        go_wp2
        go_roundw
        case rel =>
          refine ⟨k + 1, (c + x) / 4294967296, rs.set k ((c + x) % 4294967296), by omega, by go_num, by go_num, by omega, Lib.hid (by have := HL.out; simpa using this), hrs.set _ _ (Nat.mod_lt _ (by decide)), ?_, Lib.hid (fun i hi => ?_), HST, grown_set hgr _ _⟩
          · rw [show ((c : Int) + x) % 4294967296 = (((c + x) % 4294967296 : Nat) : Int) from by omega, ← HSET.out]; exact hdg.set _ _
          · rw [getD_set_other _ (by omega)]; exact HSM.out i (by omega)
        case measure => simp [intOf]; omega
    · have hke : k = n := by omega
      subst hke
      have HLAST := Lib.hid (back_last HL.out HRl.out (by have := HYl.out; omega) hrs HE.out)
      go_wp2
      go_end0
      exact ⟨c, rs, rfl, ⟨by rw [HL.out, HRl.out], hrs, hdg, hgr⟩, by rw [HRl.out]; exact HLAST.out.1, by rw [HRl.out]; exact HLAST.out.2⟩

theorem grown_trans {a b c : World} {r : Option Nat} (h : a.grownBy b r) (k : b.grownBy c r) : a.grownBy c r :=
  ⟨k.os.trans h.os, k.tape.trans h.tape, k.output.trans h.output, Nat.le_trans h.size k.size, fun i hi hne => (k.block i (Nat.lt_of_lt_of_le hi h.size) hne).trans (h.block i hi hne)⟩
theorem grown_of_below {a b : World} (h : Below a.heap.size a b) (r : Option Nat) : a.grownBy b r := ⟨h.os, h.tape, h.output, h.size, fun i hi _ => h.block i hi⟩

/-- divideStep: the digit of the quotient; the remainder lies in the place of the digits. -/
def Stepped (w : World) (g : Nat) (P R S Y : List Nat) (e : Ending) (w' : World) : Prop :=
  ∃ rs : List Nat, e = .returned (.int .u32 (dv B32 R / dv B32 Y : Nat)) ∧ Turned w g P S R.length rs w' ∧ dv B32 rs = dv B32 R % dv B32 Y

theorem step_yes {r y q F t N : Nat} (hy : 0 < y) (hq : r / y = q) (h1 : q ≤ F) (ht : t + F * y = r + N * 0) : F = q ∧ t = r % y := by
  have h2 : F ≤ q := by rw [← hq, Nat.le_div_iff_mul_le hy]; omega
  have h3 : F = q := by omega
  subst h3
  have := Nat.div_add_mod r y
  rw [hq, Nat.mul_comm] at this
  exact ⟨rfl, by omega⟩
theorem step_no {r y q F t t2 c N : Nat} (hy : 0 < y) (hq : r / y = q) (h1 : F ≤ q + 1) (ht : t + F * y = r + N * 1) (hl : t < N) (hyN : y ≤ N) (h2 : t2 + N * c = t + y) (hl2 : t2 < N) : F = q + 1 ∧ t2 = r % y := by
  have h3 : ¬ F ≤ q := by rw [← hq, Nat.le_div_iff_mul_le hy]; omega
  have h4 : F = q + 1 := by omega
  subst h4
  have h5 := Nat.div_add_mod r y
  rw [hq, Nat.mul_comm] at h5
  have h6 := Nat.mod_lt r hy
  rw [Nat.succ_mul] at ht
  refine ⟨rfl, ?_⟩
  rcases (show c = 0 ∨ c = 1 ∨ 2 ≤ c by omega) with rfl | rfl | hc
  · omega
  · omega
  · have : N * 2 ≤ N * c := Nat.mul_le_mul_left _ hc
    omega
theorem step_fits {R Y : List Nat} (h : dv B32 R < B32 * dv B32 Y) : dv B32 R / dv B32 Y < 4294967296 ∧ 0 < dv B32 Y := by
  have : 0 < dv B32 Y := by
    rcases Nat.eq_zero_or_pos (dv B32 Y) with h0 | h0
    · rw [h0] at h; omega
    · exact h0
  exact ⟨by rw [Nat.div_lt_iff_lt_mul this]; exact h, this⟩

set_option maxHeartbeats 1000000 in
set_option maxRecDepth 100000 in
theorem step_any (g : Nat) (P R S Y : List Nat) (A : Option Addr) (n cr cy : Nat) (w : World) (hg : Dg w g (P ++ R ++ S)) (hRs : Small R) (hY : IsD w A Y) (hA : Apart A g) (hRl : R.length = n + 3) (hYl : Y.length = n + 2) (hn : n ≤ 100)
    (hlt : dv B32 R < B32 * dv B32 Y) (hv : 0 < Y.getD (n + 1) 0) :
    Calls Tryz.prog 106 #[.slice (some ⟨g, P.length, none⟩) (n + 3) cr, .slice A (n + 2) cy] w (Stepped w g P R S Y) := by
  have hRI : IsD w (some ⟨g, P.length, none⟩) R := ⟨hRs, fun _ => ⟨g, P.length, rfl, hg.lt, fun k hk => by
    rw [hg.cell (P.length + k) (by simp; omega), getD_mid P R S k hk]⟩⟩
  have hyp := step_fits hlt
  have hYN : dv B32 Y ≤ B32 ^ R.length := by
    have h1 := hY.1.dv_lt
    have h2 : B32 ^ Y.length ≤ B32 ^ R.length := Nat.pow_le_pow_right (by decide) (by omega)
    omega
  have GA := Lib.hid (guess_any _ _ R Y n cr cy w hRI hY hRl hYl (by omega) hlt hv)
  have HYP := Lib.hid hyp
  have HYN := Lib.hid hYN
  have HRL := Lib.hid hRl
  have HYL := Lib.hid hYl
  clear hlt hv hRI hyp hYN hRl hYl
  go_enter Tryz.func106, Tryz.ntmps106
  go_wp2_with fail
  refine GA.out.mono ?_
  rintro e w1 ⟨F, rfl, hq1, hq2, hF, hb1⟩
  have HQ1 := Lib.hid hq1
  have HQ2 := Lib.hid hq2
  clear hq1 hq2
  go_wp2_with fail
  refine (times_any g P R S Y A (n + 3) (n + 2) cr cy F _ (hg.below hb1 hg.lt) hRs (hY.below hb1) hA HRL.out HYL.out (by omega) (by omega) (by omega) hF).mono ?_
  rintro e w2 ⟨b, rs, hb, rfl, ⟨hrl, hrs, hdg, hgr⟩, heq, hrlt⟩
  have HRSL := Lib.hid hrl
  have HEQ := Lib.hid heq
  have HRLT := Lib.hid hrlt
  clear hrl heq hrlt
  have G2 := Lib.hid (grown_trans (grown_of_below hb1 (some g)) hgr)
  rcases (show b = 0 ∨ b = 1 by omega) with rfl | rfl
  · have HS := Lib.hid (step_yes HYP.out.2 rfl HQ1.out HEQ.out)
    have hbt : ((0 : Nat) == 1) = false := rfl
    go_wp2
    go_ret
    exact ⟨rs, by rw [← HS.out.1]; rfl, ⟨HRSL.out, hrs, hdg, G2.out⟩, HS.out.2⟩
  · have hbt : ((1 : Nat) == 1) = true := rfl
    go_wp2_with fail
    refine (back_any g P rs S Y A (n + 3) (n + 2) cr cy _ hdg hrs ((hY.below hb1).grown hgr hA) hA (by rw [HRSL.out, HRL.out]) HYL.out (by omega) (by omega) (by omega)).mono ?_
    rintro e w3 ⟨c, rs2, rfl, ⟨hrl2, hrs2, hdg2, hgr2⟩, heq2, hrlt2⟩
    rw [HRSL.out] at heq2 hrlt2 hrl2
    have HS := Lib.hid (step_no HYP.out.2 rfl HQ2.out HEQ.out HRLT.out HYN.out heq2 hrlt2)
    have HRL2 := Lib.hid hrl2
    clear heq2 hrlt2 hrl2
    have hF1 : 1 ≤ F := by rw [HS.out.1]; exact Nat.le_add_left 1 _
    have HFN : Hid (((F : Int) - 1) = ((dv B32 R / dv B32 Y : Nat) : Int)) := Lib.hid (by rw [HS.out.1]; simp)
    go_wp2
    go_ret
    exact ⟨rs2, by rw [← HFN.out]; rfl, ⟨HRL2.out, hrs2, hdg2, grown_trans G2.out hgr2⟩, HS.out.2⟩

theorem step_at (g : Nat) (P R S Y : List Nat) (A : Option Addr) (n o cr cy : Nat) (w : World) (hg : Dg w g (P ++ R ++ S)) (hRs : Small R) (hY : IsD w A Y) (hA : Apart A g) (hP : P.length = o) (hRl : R.length = n + 3) (hYl : Y.length = n + 2) (hn : n ≤ 100)
    (hlt : dv B32 R < B32 * dv B32 Y) (hv : 0 < Y.getD (n + 1) 0) :
    Calls Tryz.prog 106 #[.slice (some ⟨g, o, none⟩) (n + 3) cr, .slice A (n + 2) cy] w (Stepped w g P R S Y) := by
  subst hP; exact step_any g P R S Y A n cr cy w hg hRs hY hA hRl hYl hn hlt hv
end Go.Proofs.YtmiafkbjmkaebaaGreat

namespace Go.Proofs.YtmiafkbjmkaebaaGreat
open Go.RowKit Num

/-- divide hands back the digits of the quotient and of the remainder. -/
def Divided (w : World) (X Y : List Nat) (e : Ending) (w' : World) : Prop :=
  ∃ (A1 A2 : Option Addr) (Q R : List Nat) (c1 c2 : Nat), e = .returned (.tuple #[.slice A1 Q.length c1, .slice A2 R.length c2]) ∧ IsD w' A1 Q ∧ IsD w' A2 R ∧ Q.length ≤ c1 ∧ R.length ≤ c2 ∧ Q.length ≤ 1000 ∧ R.length ≤ 1000 ∧ dv B32 Q = dv B32 X / dv B32 Y ∧ dv B32 R = dv B32 X % dv B32 Y ∧ Below w.heap.size w w'

set_option maxHeartbeats 1000000 in
set_option maxRecDepth 100000 in
theorem divide_lt (A B : Option Addr) (X Y : List Nat) (cx cy : Nat) (w : World) (hX : IsD w A X) (hYt : Trim Y) (hl : X.length < Y.length) (hcx : X.length ≤ cx) (hm : Y.length ≤ 100) :
    Calls Tryz.prog 75 #[.slice A X.length cx, .slice B Y.length cy] w (Divided w X Y) := by
  have hlt := trim_lt hX.1 hYt hl
  have HLT := Lib.hid hlt
  have hd : decide (X.length < Y.length) = true := by simpa using hl
  clear hlt
  go_enter Tryz.func75, Tryz.ntmps75
  go_wp2
  go_ret2
  exact ⟨none, A, [], X, 0, cx, rfl, IsD.nil _ _, hX, Nat.le_refl _, hcx, by simp, by omega, by rw [Nat.div_eq_of_lt HLT.out]; rfl, (Nat.mod_eq_of_lt HLT.out).symm, Below.refl _ _⟩

set_option maxHeartbeats 1000000 in
set_option maxRecDepth 100000 in
theorem divide_one (A B : Option Addr) (X Y : List Nat) (cx cy : Nat) (w : World) (hX : IsD w A X) (hY : IsD w B Y) (hYt : Trim Y) (hl : 0 < X.length) (hY1 : Y.length = 1) (hm : X.length ≤ 100) :
    Calls Tryz.prog 75 #[.slice A X.length cx, .slice B 1 cy] w (Divided w X Y) := by
  obtain ⟨gy, oy, rfl, hgy, hcy⟩ := hY.2 (by omega)
  have hcy0 := hcy 0 (by omega)
  rw [Nat.add_zero] at hcy0
  obtain ⟨d, hd⟩ : ∃ d, d = Y.getD 0 0 := ⟨_, rfl⟩
  have hd32 : d < 4294967296 := by rw [hd]; exact hY.1.at 0
  have hd0 : 0 < d := by
    rcases hYt with rfl | h
    · simp at hY1
    · rw [hY1] at h; rw [hd]; exact Nat.pos_of_ne_zero h
  have hdv : dv B32 Y = d := by
    match Y, hY1 with
    | [y], _ => simp at hd; subst hd; simp [dv]
  rw [← hd] at hcy0
  have HDV := Lib.hid hdv
  have hdec : decide (X.length < 1) = false := decide_eq_false (by omega)
  clear hdv hd hcy
  go_enter Tryz.func75, Tryz.ntmps75
  go_wp2_with fail
  refine (short_any A X cx d _ hX hd0 hd32 (by omega)).mono ?_
  rintro e w1 ⟨zs, rfl, hzl, hzs, hzd, hzv, hb1⟩
  have HZV := Lib.hid hzv
  have HZL := Lib.hid hzl
  clear hzv hzl
  obtain ⟨r, hr⟩ : ∃ r, r = dv B32 X % d := ⟨_, rfl⟩
  have hrd : r < d := by rw [hr]; exact Nat.mod_lt _ hd0
  rw [← hr]
  have HR := Lib.hid hr
  clear hr
  go_wp2
  go_ret2
  refine ⟨some ⟨w.heap.size, 0, none⟩, some ⟨w1.heap.size, 0, none⟩, zs, [r], zs.length, 1, rfl, IsD.of_dg (hzd.alloc _) hzs, IsD.of_dg (heap_alloc_new _ _) (Small.one (by unfold B32; omega)), Nat.le_refl _, Nat.le_refl _, by rw [HZL.out]; omega, by simp, by rw [HZV.out, HDV.out], by rw [HDV.out, ← HR.out]; simp [dv], hb1.alloc hb1.size _⟩

theorem top_shift {d s : Nat} (h0 : d ≠ 0) (h1 : d < 4294967296) (hs : s = 32 - Lib.bitLen d) : d * 2 ^ s < 4294967296 ∧ s < 32 ∧ Lib.bitLen d ≤ 32 := by
  obtain ⟨_, h3, h4⟩ := bitLen_pow 32 d (by omega) h1 h0
  have h5 : Lib.bitLen d ≤ 32 := Lib.bitLen_le d 32 (by omega) h1
  refine ⟨?_, by omega, h5⟩
  have h6 : d * 2 ^ s < 2 ^ Lib.bitLen d * 2 ^ s := Nat.mul_lt_mul_of_pos_right h3 (Nat.pow_pos (by decide))
  rw [← Nat.pow_add, show Lib.bitLen d + s = 32 from by omega] at h6
  exact h6
theorem shifted_lt {Y : List Nat} {n s : Nat} (hY : Y.length = n + 2) (hYs : Small Y) (h : Y.getD (n + 1) 0 * 2 ^ s < 4294967296) (hs : s < 32) : dv B32 Y * 2 ^ s < B32 ^ (n + 2) := by
  obtain ⟨l, hl1, hl2⟩ := dv_high1 Y (n + 1) hY hYs
  obtain ⟨u, hu⟩ := pow32 hs
  rw [hl2]
  have hpos : 0 < 2 ^ s := Nat.pow_pos (by decide)
  have h1 : (Y.getD (n + 1) 0 + 1) * 2 ^ s ≤ B32 := by
    have h2 : 2 ^ s * Y.getD (n + 1) 0 < 2 ^ s * u := by rw [← hu, Nat.mul_comm]; exact h
    have h3 := Nat.lt_of_mul_lt_mul_left h2
    have h4 : 2 ^ s * (Y.getD (n + 1) 0 + 1) ≤ 2 ^ s * u := Nat.mul_le_mul_left _ h3
    rw [Nat.mul_comm, show B32 = 2 ^ s * u from hu]
    exact h4
  have h5 : (Y.getD (n + 1) 0 * B32 ^ (n + 1) + l) * 2 ^ s < (Y.getD (n + 1) 0 + 1) * B32 ^ (n + 1) * 2 ^ s := Nat.mul_lt_mul_of_pos_right (by rw [Nat.add_mul]; omega) hpos
  have h6 : (Y.getD (n + 1) 0 + 1) * B32 ^ (n + 1) * 2 ^ s ≤ B32 ^ (n + 2) := by
    have e : (Y.getD (n + 1) 0 + 1) * B32 ^ (n + 1) * 2 ^ s = B32 ^ (n + 1) * ((Y.getD (n + 1) 0 + 1) * 2 ^ s) := by grind
    rw [e, Nat.pow_succ (m := n + 1)]
    exact Nat.mul_le_mul_left _ h1
  omega

set_option maxHeartbeats 2000000 in
set_option maxRecDepth 100000 in
theorem divide_long (A B : Option Addr) (X Y : List Nat) (n L cx cy : Nat) (w : World) (hX : IsD w A X) (hY : IsD w B Y) (hYt : Trim Y) (hYl : Y.length = n + 2) (hXl : X.length = L + (n + 1)) (hL : 0 < L) (hm : L + n ≤ 90) :
    Calls Tryz.prog 75 #[.slice A (L + (n + 1)) cx, .slice B (n + 2) cy] w (Divided w X Y) := by
  obtain ⟨i0, hi0, hz0, hz1, hz2⟩ := info_parts info_u32
  obtain ⟨gy, oy, rfl, hgy, hcy⟩ := hY.2 (by omega)
  have hcy0 := hcy (n + 1) (by omega)
  have hn1 : ((n : Int) + 2 - 1) = (n : Int) + 1 := by omega
  obtain ⟨d, hd⟩ : ∃ d, d = Y.getD (n + 1) 0 := ⟨_, rfl⟩
  have hd32 : d < 4294967296 := by rw [hd]; exact hY.1.at _
  have hd0 : d ≠ 0 := by
    rcases hYt with rfl | h
    · simp at hYl
    · rw [hYl] at h; rw [hd]; exact h
  have hge : B32 ^ (n + 1) ≤ dv B32 Y := by
    have := trim_ge hYt (by omega)
    rw [hYl] at this; exact this
  obtain ⟨s, hs⟩ : ∃ s, s = 32 - Lib.bitLen d := ⟨_, rfl⟩
  obtain ⟨ht1, ht2, ht3⟩ := top_shift hd0 hd32 hs
  have hVlt := shifted_lt hYl hY.1 (by rw [← hd]; exact ht1) ht2
  have hXlt := hX.1.dv_lt
  rw [hXl] at hXlt
  rw [← hd] at hcy0
  have hlz : (32 - (Lib.bitLen ((d : Int)).toNat : Int)) = (s : Int) := by rw [Int.toNat_natCast]; omega
  have LZ : ∀ W : World, Calls Tryz.prog 104 #[.int .u32 (d : Int)] W fun e w' => e = .returned (.int .i64 (s : Int)) ∧ W = w' := fun W => by
    have := lz_any (d : Int) (by omega) (by omega) W
    rw [hlz] at this
    exact this
  have HLZ := Lib.hid LZ
  have HGE := Lib.hid hge
  have HVL := Lib.hid hVlt
  have HXL := Lib.hid hXlt
  have HX := Lib.hid hXl
  have HY := Lib.hid hYl
  have HYS := Lib.hid hY.1
  have hdec : decide (L + (n + 1) < n + 2) = false := decide_eq_false (by omega)
  clear hge hVlt hXlt hXl hYl hd hcy hs ht1 ht3 hlz LZ
  go_enter Tryz.func75, Tryz.ntmps75
  go_wp2_with fail
  refine (HLZ.out _).mono ?_
  rintro e w' ⟨rfl, rfl⟩
  go_wp2_with fail
  refine (shl_at _ Y (n + 2) cy s _ hY ht2 HY.out (by omega)).mono ?_
  rintro e w1 ⟨YS, rfl, hYSl, hYSs, hYSd, hYSv, hb1⟩
  have HYSl := Lib.hid hYSl
  have HYSv := Lib.hid hYSv
  have hle1 : n + 2 ≤ YS.length := by omega
  have hle2 : YS.length ≤ 100 := by omega
  clear hYSl hYSv
  go_wp2_with fail
  refine (shl_at _ X (L + (n + 1)) cx s _ (hX.below hb1) ht2 HX.out (by omega)).mono ?_
  rintro e w2 ⟨RS, rfl, hRSl, hRSs, hRSd, hRSv, hb2⟩
  have HRSl := Lib.hid hRSl
  have HRSv := Lib.hid hRSv
  have hle3 : L + (n + 2) ≤ RS.length := by omega
  have hle4 : RS.length ≤ 100 := by omega
  clear hRSl hRSv
  go_wp2_with (at_make; refine wpList_make_full _ rfl _ _ 98 rfl w2.heap.size 124 i0 (.int .u32 0) 1 Tryz.underlying98 hi0 hz0 hz1 _ _ _ _ L rfl rfl (by omega) (by omega) (by rw [hz2]; omega) (by unfold maxLen; omega) (Nat.le_refl _) ?_; intro w3 hown3 hgrow3)
  have hb3 : Below w2.heap.size w2 w3 := (Below.refl _ _).grown hgrow3 (Nat.le_refl _) (fun g hg => by cases hg)
  rw [madeD] at hown3
  have hQd := Dg.of_own hown3
  clear hown3 hgrow3
  have hg12 : w.heap.size < w1.heap.size := hYSd.lt
  have hg23 : w1.heap.size < w2.heap.size := hRSd.lt
  have b02 : Below w.heap.size w w2 := hb1.trans (hb2.mono hb1.size)
  have b03 : Below w.heap.size w w3 := b02.trans (hb3.mono b02.size)
  have hYT0 : IsD w3 (some ⟨w.heap.size, 0, none⟩) (YS.take (n + 2)) :=
    (IsD.of_dg ((hYSd.below hb2 hg12).below hb3 (Nat.lt_trans hg12 hg23)) hYSs).take (n + 2)
  have hYTl : (YS.take (n + 2)).length = n + 2 := by rw [List.length_take]; omega
  have hYTv : dv B32 (YS.take (n + 2)) = dv B32 Y * 2 ^ s := by
    rw [← HYSv.out]
    have h3 := dv_split B32 YS (n + 2) hle1
    rcases Nat.eq_zero_or_pos (dv B32 (YS.drop (n + 2))) with g | g
    · rw [g] at h3; omega
    · have h4 : B32 ^ (n + 2) * 1 ≤ B32 ^ (n + 2) * dv B32 (YS.drop (n + 2)) := Nat.mul_le_mul_left _ g
      have h5 := HVL.out
      rw [← HYSv.out] at h5
      omega
  have hYTt : 0 < (YS.take (n + 2)).getD (n + 1) 0 := by
    obtain ⟨l, hl1, hl2⟩ := dv_high1 (YS.take (n + 2)) (n + 1) hYTl (hYSs.take _)
    rcases Nat.eq_zero_or_pos ((YS.take (n + 2)).getD (n + 1) 0) with g | g
    · exfalso
      rw [g, hYTv] at hl2
      have h4 := HGE.out
      have h5 : dv B32 Y * 1 ≤ dv B32 Y * 2 ^ s := Nat.mul_le_mul_left _ (Nat.pow_pos (by decide))
      omega
    · exact g
  have hV0 : 0 < dv B32 Y * 2 ^ s := Nat.mul_pos (Nat.lt_of_lt_of_le (Nat.pow_pos (by decide)) HGE.out) (Nat.pow_pos (by decide))
  generalize YS.take (n + 2) = YT at *
  have HYTl := Lib.hid hYTl
  have HYTv := Lib.hid hYTv
  have HYTt := Lib.hid hYTt
  have HV0 := Lib.hid hV0
  have HLS : Hid (LongDiv RS (List.replicate L 0) L (dv B32 X * 2 ^ s) (dv B32 Y * 2 ^ s)) :=
    Lib.hid (long_start (n := n) (M := L + (n + 1)) HRSl.out hRSs List.length_replicate rfl HXL.out HRSv.out HGE.out)
  have hRd3 := hRSd.below hb3 hg23
  have HQ0 := Lib.hid hQd
  clear hYTl hYTv hYTt hV0 hQd HLZ
  go_loopw [60] (fun c wr => ∃ (k : Nat) (W zs : List Nat), k ≤ L ∧ c = .int .i64 k ∧ Hid (W.length = RS.length) ∧ Small W ∧ Dg wr w1.heap.size W ∧ Hid (zs.length = L) ∧ Small zs ∧ Dg wr w2.heap.size zs ∧ IsD wr (some ⟨w.heap.size, 0, none⟩) YT ∧ Hid (LongDiv W zs (L - k) (dv B32 X * 2 ^ s) (dv B32 Y * 2 ^ s)) ∧ Below w.heap.size w wr) (fun c _ => L - (intOf c).toNat)
  case atStart => exact ⟨0, RS, _, Nat.zero_le _, rfl, Lib.hid rfl, hRSs, hRd3, Lib.hid List.length_replicate, Small.replicate _, HQ0.out, hYT0, HLS, b03⟩
  case round =>
    obtain ⟨k, W, zs, hk, rfl, HWl, hWs, hWd, HZl, hzs, hzd, hYI, HLD, hbel⟩ := hrel
    by_cases hlt : k < L
    · obtain ⟨t, ht⟩ : ∃ t, t + 1 = L - k := ⟨L - k - 1, by omega⟩
      have hmt : ((L : Int) - 1 - (k : Int)) = (t : Int) := by omega
      have htl : t < L := by omega
      have HT := Lib.hid ht
      obtain ⟨R, S, hW, hRl, hRs, hS0, hRlt, hRv⟩ := long_part (t := t) (n := n) (by rw [ht]; exact HLD.out) hWs HVL.out (by have := HWl.out; omega)
      have hPl : (W.take t).length = t := by rw [List.length_take]; have := HWl.out; omega
      have hWd2 : Dg wr w1.heap.size (W.take t ++ R ++ S) := by rw [← hW]; exact hWd
      have HW := Lib.hid hW
      have HPl := Lib.hid hPl
      have HRl := Lib.hid hRl
      have HS0 := Lib.hid hS0
      have HRlt := Lib.hid hRlt
      have hfr := hzd.frozen t
      have hcz := hzd.cell t (by have := HZl.out; omega)
      obtain ⟨z, hz⟩ : ∃ z, z = zs.getD t 0 := ⟨_, rfl⟩
      rw [← hz] at hcz
      clear ht hW hPl hRl hS0 hRlt hRv hz
      go_wp2_with fail
      rw [show t + (n + 2) + 1 - t = n + 3 from by omega]
      refine (step_at w1.heap.size (W.take t) R S YT _ n t _ _ _ hWd2 hRs hYI (by intro p hp; cases hp; exact Nat.ne_of_lt hg12) HPl.out HRl.out HYTl.out (by omega) (by rw [HYTv.out]; exact HRlt.out) HYTt.out).mono ?_
      rintro e w5 ⟨R', rfl, ⟨hR'l, hR's, hR'd, hgr⟩, hR'v⟩
      rw [HYTv.out] at hR'v
      rw [HRl.out] at hR'l
      obtain ⟨q, hq⟩ : ∃ q, q = dv B32 R / (dv B32 Y * 2 ^ s) := ⟨_, rfl⟩
      have hq32 : q < 4294967296 := by
        have := step_fits (R := R) (Y := YT) (by rw [HYTv.out]; exact HRlt.out)
        rw [HYTv.out, ← hq] at this
        exact this.1
      rw [HYTv.out, ← hq]
      have hst := long_step (by rw [HT.out]; exact HLD.out) HW.out HPl.out HRl.out hR'l HS0.out (by have := HZl.out; omega) hq hR'v HV0.out
      have HST := Lib.hid hst
      have hzd5 : Dg w5 w2.heap.size zs := hzd.kept hgr (by intro e; injection e with e; omega)
      have hYI5 := hYI.grown hgr (by intro p hp; cases hp; exact Nat.ne_of_lt hg12)
      have hbel5 := hbel.grown hgr hbel.size (fun k hk => by cases hk; omega)
      have hfr5 := hzd5.frozen t
      have hcz5 := hzd5.cell t (by have := HZl.out; omega)
      obtain ⟨z5, hz5⟩ : ∃ z, z = zs.getD t 0 := ⟨_, rfl⟩
      rw [← hz5] at hcz5
      have HR'L := Lib.hid hR'l
      have HZD5 := Lib.hid hzd5
      have HQ32 := Lib.hid hq32
      have HGR := Lib.hid hgr
      have hlen : (W.take t ++ R' ++ S).length = W.length := by
        conv => rhs; rw [HW.out]
        simp only [List.length_append]
        rw [hR'l, HRl.out]
      have HLEN := Lib.hid hlen
      clear hst hq hR'v hR'l hz5 hcz hfr hlen hq32
      go_wp2
      go_roundw
      case rel =>
        refine ⟨k + 1, W.take t ++ R' ++ S, zs.set t q, by omega, by go_num, Lib.hid (by rw [HLEN.out]; exact HWl.out), ?_, ?_, Lib.hid (by have := HZl.out; simpa using this), hzs.set _ _ HQ32.out, HZD5.out.set _ _, ?_, Lib.hid ?_, hbel5.setCell (p := ⟨w2.heap.size, t, none⟩) (show w.heap.size ≤ w2.heap.size by omega) _⟩
        · exact ((hWs.take t).app hR's).app (fun d hd => hWs d (by rw [HW.out]; exact List.mem_append_right _ hd))
        · exact hR'd.far (by simp; omega) _
        · exact ⟨hYI5.1, fun hp => by
            obtain ⟨gx, ox, he, hgx, hcx⟩ := hYI5.2 hp
            refine ⟨gx, ox, he, by simpa [World.setCell] using hgx, fun j hj => ?_⟩
            rw [World.cell?_setCell_other _ _ _ _ ?_]
            · exact hcx j hj
            · intro e
              injection he with he
              injection he with he1 _ _
              injection e with e1 _ _
              omega⟩
        · rw [show L - (k + 1) = t from by have := HT.out; omega]; exact HST.out
      case measure => simp [intOf]; omega
    · have hke : L - k = 0 := by omega
      have hend := long_end (n := n) (by rw [← hke]; exact HLD.out) HVL.out (by have := HWl.out; omega)
      have HEND := Lib.hid hend
      have hWI : IsD wr (some ⟨w1.heap.size, 0, none⟩) (W.take (n + 2)) := (IsD.of_dg hWd hWs).take _
      have hWtl : (W.take (n + 2)).length = n + 2 := by rw [List.length_take]; have := HWl.out; omega
      have HWTL := Lib.hid hWtl
      clear hend hke hWtl
      go_wp2_with fail
      refine (shr_at _ (W.take (n + 2)) (n + 2) _ s _ hWI ht2 HWTL.out (by omega)).mono ?_
      rintro e w6 ⟨FS, rfl, hFl, hFs, hFd, hFv, hb6⟩
      have HFL := Lib.hid hFl
      have HFV := Lib.hid hFv
      clear hFl hFv
      go_wp2
      go_ret2
      exact ⟨some ⟨w2.heap.size, 0, none⟩, some ⟨wr.heap.size, 0, none⟩, zs, FS, L, FS.length, by rw [HZl.out]; rfl, (IsD.of_dg hzd hzs).below hb6, IsD.of_dg hFd hFs, Nat.le_of_eq HZl.out, Nat.le_refl _, by rw [HZl.out]; omega, by rw [HFL.out]; omega, HEND.out.1, by rw [HFV.out]; exact HEND.out.2, hbel.trans (hb6.mono hbel.size)⟩
end Go.Proofs.YtmiafkbjmkaebaaGreat
