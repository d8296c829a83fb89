/-
  Contracts of the reference's one, Plus and Minus.
-/
import Derived.Test.YtehpdpcpdfgnlaaRefC
namespace Go.Proofs.Ytehpdpcpdfgnlaa
open Go.RowKit Num

/-- Whether the binary digit with the weight 2^i is 1. -/
def bitB (a i : Nat) : Bool := a / 2 ^ i % 2 == 1
theorem bit_of_byte (a i : Nat) : byteN a (i / 8) / 2 ^ (i % 8) % 2 = a / 2 ^ i % 2 := by
  unfold byteN
  have e : (256 : Nat) ^ (i / 8) = 2 ^ (8 * (i / 8)) := by rw [Nat.pow_mul]
  have e2 : 2 ^ i = 2 ^ (8 * (i / 8)) * 2 ^ (i % 8) := by rw [← Nat.pow_add]; congr 1; omega
  rw [e, e2, ← Nat.div_div_eq_div_mul]
  generalize a / 2 ^ (8 * (i / 8)) = V
  have : i % 8 = 0 ∨ i % 8 = 1 ∨ i % 8 = 2 ∨ i % 8 = 3 ∨ i % 8 = 4 ∨ i % 8 = 5 ∨ i % 8 = 6 ∨ i % 8 = 7 := by omega
  rcases this with h | h | h | h | h | h | h | h <;> rw [h] <;> simp <;> omega

set_option maxHeartbeats 400000 in
theorem one_any (a i : Nat) (w : World) (hs : (bs a).size ≤ 100000) (hi : i ≤ 100000) :
    Calls Try.prog 95 #[.string (bs a), .int .i64 i] w (Same w (.bool (bitB a i))) := by
  have hbl : byteN a (i / 8) < 256 := Nat.mod_lt _ (by decide)
  have HBB := Lib.hid (bit_of_byte a i)
  obtain ⟨b, hb⟩ : ∃ b, byteN a (i / 8) = b := ⟨_, rfl⟩
  rw [hb] at hbl HBB
  have HB := Lib.hid hb
  clear hb
  go_enter Try.func95, Try.ntmps95
  go_wp2_with fail
  refine (at_any a (i / 8) _ hs (by omega)).mono ?_
  rintro e w' ⟨rfl, rfl⟩
  rw [HB.out]
  go_wp2
  go_loop [5, 6] (fun u v => ∃ k x : Nat, k ≤ i % 8 ∧ v = .int .i64 k ∧ u = .int .i64 x ∧ x < 256 ∧ Hid (x = b / 2 ^ k)) (fun _ v => 8 - (intOf v).toNat)
  case atStart => exact ⟨0, b, by omega, rfl, rfl, hbl, Lib.hid (by simp)⟩
  case round =>
    obtain ⟨k, x, hk, rfl, rfl, hx, HX⟩ := hrel
    by_cases hlt : k < i % 8
    · have HN : Hid (x / 2 = b / 2 ^ (k + 1)) := Lib.hid (by rw [HX.out, Nat.pow_succ, Nat.div_div_eq_div_mul])
      go_wp2
      go_round
      case rel => exact ⟨k + 1, x / 2, by omega, by go_num, by go_num, by omega, HN⟩
      case measure => simp [intOf]; omega
    · have hke : k = i % 8 := by omega
      have hbit : bitB a i = (x % 2 == 1) := by
        unfold bitB
        rw [← HBB.out, HX.out, hke]
      rcases (show x % 2 = 1 ∨ x % 2 = 0 by omega) with h | h
      · have h2 : ((x : Int) % 2 == 1) = true := by rw [beq_iff_eq]; omega
        have HF : Hid (bitB a i = true) := Lib.hid (by rw [hbit, h]; rfl)
        clear hke hbit h
        go_wp2
        go_ret
        exact ⟨by rw [HF.out]; rfl, rfl⟩
      · have h2 : ((x : Int) % 2 == 1) = false := by rw [beq_eq_false_iff_ne]; omega
        have HF : Hid (bitB a i = false) := Lib.hid (by rw [hbit, h]; rfl)
        clear hke hbit h
        go_wp2
        go_ret
        exact ⟨by rw [HF.out]; rfl, rfl⟩

theorem byte_next (a i : Nat) : a % 256 ^ (i + 1) = a % 256 ^ i + 256 ^ i * byteN a i := mod_next a i
theorem plus_step {a b i c t L : Nat} {l : List UInt8} {d : UInt8} (hL : l.length = L) (ht : t + 1 + i = L) (h : bval (l.drop (t + 1)) + 256 ^ i * c = a % 256 ^ i + b % 256 ^ i)
    (hd : d.toNat = (byteN a i + byteN b i + c) % 256) : bval ((l.set t d).drop t) + 256 ^ (i + 1) * ((byteN a i + byteN b i + c) / 256) = a % 256 ^ (i + 1) + b % 256 ^ (i + 1) := by
  rw [bval_set_drop l t d (by omega), hL, show L - t - 1 = i from by omega, hd, byte_next, byte_next, Nat.pow_succ]
  generalize byteN a i = x at *
  generalize byteN b i = y at *
  generalize 256 ^ i = p at *
  have e := Nat.div_add_mod (x + y + c) 256
  have e2 : p * 256 * ((x + y + c) / 256) + (x + y + c) % 256 * p = p * x + p * y + p * c := by
    rw [Nat.mul_assoc, Nat.mul_comm _ p, ← Nat.mul_add, e, Nat.mul_add, Nat.mul_add]
  omega
theorem plus_end {a b c L : Nat} {l : List UInt8} (hL : l.length = L) (h : bval (l.drop 0) + 256 ^ L * c = a % 256 ^ L + b % 256 ^ L) (ha : (bs a).size + 1 ≤ L) (hb : (bs b).size + 1 ≤ L) : bval l = a + b := by
  rw [List.drop_zero] at h
  have h1 := bval_lt l
  rw [hL] at h1
  obtain ⟨m, rfl⟩ : ∃ m, L = m + 1 := ⟨L - 1, by omega⟩
  have ha2 : a < 256 ^ m := by
    have := cb_lt_pow a
    rw [← bs_size] at this
    exact Nat.lt_of_lt_of_le this (Nat.pow_le_pow_right (by decide) (by omega))
  have hb2 : b < 256 ^ m := by
    have := cb_lt_pow b
    rw [← bs_size] at this
    exact Nat.lt_of_lt_of_le this (Nat.pow_le_pow_right (by decide) (by omega))
  rw [Nat.pow_succ] at *
  rw [Nat.mod_eq_of_lt (by omega), Nat.mod_eq_of_lt (by omega)] at h
  rcases Nat.eq_zero_or_pos c with rfl | hc
  · omega
  · have : 256 ^ m * 256 * 1 ≤ 256 ^ m * 256 * c := Nat.mul_le_mul_left _ hc
    omega

set_option maxHeartbeats 1000000 in
set_option maxRecDepth 100000 in
theorem plus_any (a b : Nat) (w : World) (h1 : (bs a).size ≤ 10000) (h2 : (bs b).size ≤ 10000) :
    Calls Try.prog 70 #[.string (bs a), .string (bs b)] w (Made w (.string (bs (a + b)))) := by
  obtain ⟨i0, hi0, hz0, hz1, hz2⟩ := info_parts info_u8
  rcases Nat.lt_or_ge (bs a).size (bs b).size with g | g
  case' inl =>
    obtain ⟨L, hL⟩ : ∃ L, L = (bs b).size + 1 := ⟨_, rfl⟩
    have hLi : ((bs b).size : Int) + 1 = (L : Int) := by omega
    have hla : (bs a).size + 1 ≤ L := by omega
    have hlb : (bs b).size + 1 ≤ L := by omega
    have hl : L ≤ 10001 := by omega
    clear hL
    go_enter Try.func70, Try.ntmps70
    go_wp2_with (at_make; refine wpList_make_full _ rfl _ _ 77 rfl w.heap.size 5 i0 (.int .u8 0) 1 Try.underlying77 hi0 hz0 hz1 _ _ _ _ L rfl rfl (by omega) (by omega) (by rw [hz2]; omega) (by unfold maxLen; omega) (Nat.le_refl _) ?_; intro w0 hown0 hgrow0)
  case' inr =>
    obtain ⟨L, hL⟩ : ∃ L, L = (bs a).size + 1 := ⟨_, rfl⟩
    have hLi : ((bs a).size : Int) + 1 = (L : Int) := by omega
    have hla : (bs a).size + 1 ≤ L := by omega
    have hlb : (bs b).size + 1 ≤ L := by omega
    have hl : L ≤ 10001 := by omega
    clear hL
    go_enter Try.func70, Try.ntmps70
    go_wp2_with (at_make; refine wpList_make_full _ rfl _ _ 77 rfl w.heap.size 5 i0 (.int .u8 0) 1 Try.underlying77 hi0 hz0 hz1 _ _ _ _ L rfl rfl (by omega) (by omega) (by rw [hz2]; omega) (by unfold maxLen; omega) (Nat.le_refl _) ?_; intro w0 hown0 hgrow0)
  all_goals
    have hb0 : Below w.heap.size w w0 := (Below.refl _ _).grown hgrow0 (Nat.le_refl _) (fun g hg => by cases hg)
    rw [madeB] at hown0
    have hB0 := Bt.of_own hown0
    clear hown0 hgrow0 hLi
    go_loopw [7, 8] (fun u v wr => ∃ (i c : Nat) (l : List UInt8), i ≤ L ∧ v = .int .i64 i ∧ u = .int .i64 c ∧ c ≤ 1 ∧ Hid (l.length = L) ∧ Bt wr w.heap.size l ∧ Hid (bval (l.drop (L - i)) + 256 ^ i * c = a % 256 ^ i + b % 256 ^ i) ∧ Below w.heap.size w wr) (fun _ v _ => L - (intOf v).toNat)
    case atStart => exact ⟨0, 0, _, Nat.zero_le _, rfl, rfl, by omega, Lib.hid List.length_replicate, hB0, Lib.hid (by simp [Nat.mod_one, bval]), hb0⟩
    case round =>
      obtain ⟨i, c, l, hi, rfl, rfl, hc, HL, hB, HV, hbel⟩ := hrel
      by_cases hlt : i < L
      · obtain ⟨t, ht⟩ : ∃ t, t + 1 + i = L := ⟨L - 1 - i, by omega⟩
        have hti : (L : Int) - 1 - (i : Int) = (t : Int) := by omega
        have htl : t < L := by omega
        have hfr := hB.frozen t
        have hcz := hB.cell t (by have := HL.out; omega)
        obtain ⟨z, hz⟩ : ∃ z, z = (l.getD t 0).toNat := ⟨_, rfl⟩
        rw [← hz] at hcz
        have hx : byteN a i < 256 := Nat.mod_lt _ (by decide)
        have hy : byteN b i < 256 := Nat.mod_lt _ (by decide)
        obtain ⟨x, hxd⟩ : ∃ x, byteN a i = x := ⟨_, rfl⟩
        obtain ⟨y, hyd⟩ : ∃ y, byteN b i = y := ⟨_, rfl⟩
        obtain ⟨d, hd⟩ : ∃ d, d = UInt8.ofNat ((x + y + c) % 256) := ⟨_, rfl⟩
        have hdn : d.toNat = (x + y + c) % 256 := by rw [hd, UInt8.toNat_ofNat']; omega
        have hdi : ((x : Int) + (y : Int) + (c : Int)) % 256 = (d.toNat : Int) := by omega
        have hst := plus_step (a := a) (b := b) (i := i) (c := c) (t := t) (d := d) HL.out ht (by rw [show t + 1 = L - i from by omega]; exact HV.out) (by rw [hxd, hyd]; exact hdn)
        rw [hxd, hyd] at hst
        rw [hxd] at hx
        rw [hyd] at hy
        have HST := Lib.hid hst
        have HX := Lib.hid hxd
        have HY := Lib.hid hyd
        have HT := Lib.hid ht
        have A1 := Lib.hid (at_any a i)
        have A2 := Lib.hid (at_any b i)
        clear hst hxd hyd ht hz hd hdn
        go_wp2_with fail
        refine (A1.out _ (by omega) (by omega)).mono ?_
        rintro e w' ⟨rfl, rfl⟩
        rw [HX.out]
        go_wp2_with fail
        refine (A2.out _ (by omega) (by omega)).mono ?_
        rintro e w' ⟨rfl, rfl⟩
        rw [HY.out]
        go_wp2
        go_roundw
        case rel => exact ⟨i + 1, (x + y + c) / 256, l.set t d, by omega, by go_num, by go_num, by omega, Lib.hid (by have := HL.out; simpa using this), hB.set _ _, Lib.hid (by rw [show L - (i + 1) = t from by have := HT.out; omega]; exact HST.out), hbel.setCell (Nat.le_refl _) _⟩
        case measure => simp [intOf]; omega
      · have hie : i = L := by omega
        subst hie
        have HF := Lib.hid (plus_end HL.out (by have := HV.out; rw [Nat.sub_self] at this; exact this) hla hlb)
        go_wp2_with fail
        refine (rtrim_any w.heap.size l i _ hB HL.out (by omega)).mono ?_
        rintro e w' ⟨rfl, rfl⟩
        go_wp2
        go_ret
        exact ⟨ret_str (by rw [HF.out]), hbel⟩

theorem minus_step {a b i c bw t L : Nat} {l : List UInt8} {d : UInt8} (hL : l.length = L) (ht : t + 1 + i = L) (h : bval (l.drop (t + 1)) + b % 256 ^ i = a % 256 ^ i + 256 ^ i * c)
    (hd : d.toNat + byteN b i + c = byteN a i + 256 * bw) : bval ((l.set t d).drop t) + b % 256 ^ (i + 1) = a % 256 ^ (i + 1) + 256 ^ (i + 1) * bw := by
  rw [bval_set_drop l t d (by omega), hL, show L - t - 1 = i from by omega, byte_next, byte_next, Nat.pow_succ]
  generalize byteN a i = x at *
  generalize byteN b i = y at *
  generalize 256 ^ i = p at *
  generalize d.toNat = e at *
  have e2 : e * p + p * y + p * c = p * x + p * 256 * bw := by
    rw [Nat.mul_comm e, Nat.mul_assoc, ← Nat.mul_add, ← Nat.mul_add, hd, Nat.mul_add]
  omega
theorem minus_end {a b c L : Nat} {l : List UInt8} (hL : l.length = L) (h : bval (l.drop 0) + b % 256 ^ L = a % 256 ^ L + 256 ^ L * c) (ha : (bs a).size ≤ L) (hb : b ≤ a) : bval l = a - b := by
  rw [List.drop_zero] at h
  have h1 := bval_lt l
  rw [hL] at h1
  have ha2 : a < 256 ^ L := bs_le.1 ha
  rw [Nat.mod_eq_of_lt (by omega), Nat.mod_eq_of_lt (by omega)] at h
  rcases Nat.eq_zero_or_pos c with rfl | hc
  · omega
  · have : 256 ^ L * 1 ≤ 256 ^ L * c := Nat.mul_le_mul_left _ hc
    omega

set_option maxHeartbeats 1000000 in
set_option maxRecDepth 100000 in
theorem minus_any (a b : Nat) (w : World) (h1 : (bs a).size ≤ 10000) (h2 : (bs b).size ≤ 10000) (hab : b ≤ a) :
    Calls Try.prog 97 #[.string (bs a), .string (bs b)] w (Made w (.string (bs (a - b)))) := by
  obtain ⟨i0, hi0, hz0, hz1, hz2⟩ := info_parts info_u8
  obtain ⟨L, hL⟩ : ∃ L, L = (bs a).size := ⟨_, rfl⟩
  have hLi : ((bs a).size : Int) = (L : Int) := by omega
  have hla : (bs a).size ≤ L := by omega
  have hl : L ≤ 10000 := by omega
  have HAB := Lib.hid hab
  clear hL hab
  go_enter Try.func97, Try.ntmps97
  go_wp2_with (at_make; refine wpList_make_full _ rfl _ _ 77 rfl w.heap.size 5 i0 (.int .u8 0) 1 Try.underlying77 hi0 hz0 hz1 _ _ _ _ L rfl rfl (by omega) (by omega) (by rw [hz2]; omega) (by unfold maxLen; omega) (Nat.le_refl _) ?_; intro w0 hown0 hgrow0)
  have hb0 : Below w.heap.size w w0 := (Below.refl _ _).grown hgrow0 (Nat.le_refl _) (fun g hg => by cases hg)
  rw [madeB] at hown0
  have hB0 := Bt.of_own hown0
  clear hown0 hgrow0
  go_loopw [7, 8] (fun u v wr => ∃ (i c : Nat) (l : List UInt8), i ≤ L ∧ v = .int .i64 i ∧ u = .int .i64 c ∧ c ≤ 1 ∧ Hid (l.length = L) ∧ Bt wr w.heap.size l ∧ Hid (bval (l.drop (L - i)) + b % 256 ^ i = a % 256 ^ i + 256 ^ i * c) ∧ Below w.heap.size w wr) (fun _ v _ => L - (intOf v).toNat)
  case atStart => exact ⟨0, 0, _, Nat.zero_le _, rfl, rfl, by omega, Lib.hid List.length_replicate, hB0, Lib.hid (by simp [Nat.mod_one, bval]), hb0⟩
  case round =>
    obtain ⟨i, c, l, hi, rfl, rfl, hc, HL, hB, HV, hbel⟩ := hrel
    by_cases hlt : i < L
    · obtain ⟨t, ht⟩ : ∃ t, t + 1 + i = L := ⟨L - 1 - i, by omega⟩
      have hti : (L : Int) - 1 - (i : Int) = (t : Int) := by omega
      have htl : t < L := by omega
      have hfr := hB.frozen t
      have hcz := hB.cell t (by have := HL.out; omega)
      obtain ⟨z, hz⟩ : ∃ z, z = (l.getD t 0).toNat := ⟨_, rfl⟩
      rw [← hz] at hcz
      have hx : byteN a i < 256 := Nat.mod_lt _ (by decide)
      have hy : byteN b i < 256 := Nat.mod_lt _ (by decide)
      obtain ⟨x, hxd⟩ : ∃ x, byteN a i = x := ⟨_, rfl⟩
      obtain ⟨y, hyd⟩ : ∃ y, byteN b i = y := ⟨_, rfl⟩
      rw [hxd] at hx
      rw [hyd] at hy
      have HX := Lib.hid hxd
      have HY := Lib.hid hyd
      have HT := Lib.hid ht
      have A1 := Lib.hid (at_any a i)
      have A2 := Lib.hid (at_any b i)
      clear hxd hyd hz
      by_cases hneg : x < y + c
      · obtain ⟨d, hd⟩ : ∃ d, d = UInt8.ofNat (x + 256 - y - c) := ⟨_, rfl⟩
        have hdn : d.toNat = x + 256 - y - c := by rw [hd, UInt8.toNat_ofNat']; omega
        have hdi : (x : Int) - (y : Int) - (c : Int) + 256 = (d.toNat : Int) := by omega
        have hdl : d.toNat < 256 := byte_lt d
        have HST := Lib.hid (minus_step (a := a) (b := b) (i := i) (c := c) (t := t) (d := d) (bw := 1) HL.out ht (by rw [show t + 1 = L - i from by omega]; exact HV.out) (by rw [HX.out, HY.out]; omega))
        clear ht hd hdn
        go_wp2_with fail
        refine (A1.out _ (by omega) (by omega)).mono ?_
        rintro e w' ⟨rfl, rfl⟩
        rw [HX.out]
        go_wp2_with fail
        refine (A2.out _ (by omega) (by omega)).mono ?_
        rintro e w' ⟨rfl, rfl⟩
        rw [HY.out]
        go_wp2
        go_roundw
        case rel => exact ⟨i + 1, 1, l.set t d, by omega, by go_num, by go_num, by omega, Lib.hid (by have := HL.out; simpa using this), hB.set _ _, Lib.hid (by rw [show L - (i + 1) = t from by have := HT.out; omega]; exact HST.out), hbel.setCell (Nat.le_refl _) _⟩
        case measure => simp [intOf]; omega
      · obtain ⟨d, hd⟩ : ∃ d, d = UInt8.ofNat (x - y - c) := ⟨_, rfl⟩
        have hdn : d.toNat = x - y - c := by rw [hd, UInt8.toNat_ofNat']; omega
        have hdi : (x : Int) - (y : Int) - (c : Int) = (d.toNat : Int) := by omega
        have hdl : d.toNat < 256 := byte_lt d
        have HST := Lib.hid (minus_step (a := a) (b := b) (i := i) (c := c) (t := t) (d := d) (bw := 0) HL.out ht (by rw [show t + 1 = L - i from by omega]; exact HV.out) (by rw [HX.out, HY.out]; omega))
        clear ht hd hdn
        go_wp2_with fail
        refine (A1.out _ (by omega) (by omega)).mono ?_
        rintro e w' ⟨rfl, rfl⟩
        rw [HX.out]
        go_wp2_with fail
        refine (A2.out _ (by omega) (by omega)).mono ?_
        rintro e w' ⟨rfl, rfl⟩
        rw [HY.out]
        go_wp2
        go_roundw
        case rel => exact ⟨i + 1, 0, l.set t d, by omega, by go_num, by go_num, by omega, Lib.hid (by have := HL.out; simpa using this), hB.set _ _, Lib.hid (by rw [show L - (i + 1) = t from by have := HT.out; omega]; exact HST.out), hbel.setCell (Nat.le_refl _) _⟩
        case measure => simp [intOf]; omega
    · have hie : i = L := by omega
      subst hie
      have HF := Lib.hid (minus_end HL.out (by have := HV.out; rw [Nat.sub_self] at this; exact this) hla HAB.out)
      go_wp2_with fail
      refine (rtrim_any w.heap.size l i _ hB HL.out (by omega)).mono ?_
      rintro e w' ⟨rfl, rfl⟩
      go_wp2
      go_ret
      exact ⟨ret_str (by rw [HF.out]), hbel⟩
end Go.Proofs.Ytehpdpcpdfgnlaa
