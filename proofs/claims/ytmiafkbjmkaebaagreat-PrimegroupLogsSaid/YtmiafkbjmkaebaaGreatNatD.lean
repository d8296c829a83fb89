/-
  Contracts of natural.DivMod for canonical arguments. Contracts of natural.Gcd, Bits and power for canonical arguments. Contracts of natural.Sqrt and Bit for canonical arguments.
-/
import Derived.Test.YtmiafkbjmkaebaaGreatDivide
import Derived.Test.YtmiafkbjmkaebaaGreatNatA
import Derived.Test.YtmiafkbjmkaebaaGreatBase
namespace Go.Proofs.YtmiafkbjmkaebaaGreat
open Go.RowKit Num

theorem trim_digits {n : Nat} {zs : List Nat} (hl : zs.length = dlen n) (hs : Small zs) (hv : dv B32 zs = n) : Trim zs := by
  by_cases h0 : n = 0
  · left
    apply List.length_eq_zero_iff.1
    rw [hl, h0]
    unfold dlen
    rw [bs_zero]
    rfl
  · right
    intro hc
    have hp := bs_pos h0
    have hlen : 0 < zs.length := by rw [hl]; unfold dlen; omega
    have h1 := dv_take_next B32 zs (zs.length - 1)
    rw [show zs.length - 1 + 1 = zs.length from by omega, List.take_length, hc, hv] at h1
    have h2 := (hs.take (zs.length - 1)).dv_lt
    rw [List.length_take, Nat.min_eq_left (by omega)] at h2
    have h3 := cb_pow_le h0
    rw [← bs_size] at h3
    have h4 : B32 ^ (zs.length - 1) ≤ 256 ^ ((bs n).size - 1) := by
      have : B32 = 256 ^ 4 := by decide
      rw [this, ← Nat.pow_mul]
      exact Nat.pow_le_pow_right (by decide) (by rw [hl]; unfold dlen; omega)
    omega

theorem divide_any (A B : Option Addr) (X Y : List Nat) (cx cy : Nat) (w : World) (hX : IsD w A X) (hY : IsD w B Y) (hYt : Trim Y) (hy0 : 0 < Y.length) (hcx : X.length ≤ cx) (hx : X.length ≤ 33) (hy : Y.length ≤ 33) :
    Calls Tryz.prog 75 #[.slice A X.length cx, .slice B Y.length cy] w (Divided w X Y) := by
  rcases Nat.lt_or_ge X.length Y.length with h | h
  · exact divide_lt A B X Y cx cy w hX hYt h hcx (by omega)
  · by_cases h1 : Y.length = 1
    · have := divide_one A B X Y cx cy w hX hY hYt (by omega) h1 (by omega)
      rw [h1]
      exact this
    · obtain ⟨n, hn⟩ : ∃ n, Y.length = n + 2 := ⟨Y.length - 2, by omega⟩
      obtain ⟨L, hL⟩ : ∃ L, X.length = L + (n + 1) := ⟨X.length - (n + 1), by omega⟩
      have := divide_long A B X Y n L cx cy w hX hY hYt hn hL (by omega) (by omega)
      rw [hn, hL]
      exact this

theorem dlen_pos {b : Nat} (h : b ≠ 0) : 0 < dlen b := by have := bs_pos h; unfold dlen; omega

set_option maxHeartbeats 1000000 in
set_option maxRecDepth 100000 in
theorem divmod_ok {a b : Nat} (ha : a < Top) (hb : b < Top) (h0 : b ≠ 0) (w : World) :
    Calls Tryz.prog 50 #[.string (bs a), .string (bs b)] w (Made w (.tuple #[.string (bs (a / b)), .string (bs (a % b)), .int .i64 0])) := by
  have h1 := dlen_le ha
  have h2 := dlen_le hb
  have h3 := dlen_pos h0
  have HA := Lib.hid ha
  have HB := Lib.hid hb
  have H0 := Lib.hid h0
  have he : (bs b).toList.isEmpty = false := by rw [bs_isEmpty]; simpa using h0
  clear ha hb h0
  go_enter Tryz.func50, Tryz.ntmps50
  go_wp2_with fail
  refine (valid_yes HA.out _).mono ?_
  rintro e w' ⟨rfl, rfl⟩
  go_wp2_with fail
  refine (valid_yes HB.out _).mono ?_
  rintro e w' ⟨rfl, rfl⟩
  go_wp2_with fail
  refine (digitsof_any a _ HA.out).mono ?_
  rintro e w1 ⟨xs, rfl, hxl, hxs, hxd, hxv, hbx⟩
  have hx32 : xs.length ≤ 32 := by omega
  have HXV := Lib.hid hxv
  clear hxl hxv
  go_wp2_with fail
  refine (digitsof_any b _ HB.out).mono ?_
  rintro e w2 ⟨ys, rfl, hyl, hys, hyd, hyv, hby⟩
  have hy32 : ys.length ≤ 32 := by omega
  have hyp : 0 < ys.length := by omega
  have HYV := Lib.hid hyv
  have HYT := Lib.hid (trim_digits hyl hys hyv)
  clear hyl hyv
  go_wp2_with fail
  refine (divide_any _ _ xs ys _ _ _ ((IsD.of_dg hxd hxs).below hby) (IsD.of_dg hyd hys) HYT.out hyp (Nat.le_refl _) (by omega) (by omega)).mono ?_
  rintro e w3 ⟨A1, A2, Q, R, c1, c2, rfl, hQ, hR, hc1, hc2, hl1, hl2, hQv, hRv, hb3⟩
  rw [HXV.out, HYV.out] at hQv hRv
  have HQV := Lib.hid hQv
  have HRV := Lib.hid hRv
  clear hQv hRv
  go_wp2_with fail
  refine (natof_ok A1 Q c1 _ hQ hc1 (by omega) (by rw [HQV.out]; exact Nat.lt_of_le_of_lt (Nat.div_le_self _ _) HA.out)).mono ?_
  rintro e w4 ⟨rfl, hb4⟩
  go_wp2_with fail
  refine (natof_ok A2 R c2 _ (hR.below hb4) hc2 (by omega) (by rw [HRV.out]; exact Nat.lt_of_le_of_lt (Nat.mod_le _ _) HA.out)).mono ?_
  rintro e w5 ⟨rfl, hb5⟩
  go_wp2
  go_ret3
  have b2 : Below w.heap.size w w2 := hbx.trans (hby.mono hbx.size)
  have b3 := b2.trans (hb3.mono b2.size)
  have b4 := b3.trans (hb4.mono b3.size)
  exact ⟨by rw [HQV.out, HRV.out]; rfl, b4.trans (hb5.mono b4.size)⟩

set_option maxHeartbeats 400000 in
theorem divmod_zero {a : Nat} (ha : a < Top) (w : World) :
    Calls Tryz.prog 50 #[.string (bs a), .string (bs 0)] w (Same w (.tuple #[.string (bs 0), .string (bs 0), .int .i64 11])) := by
  have HA := Lib.hid ha
  have he : (bs 0).toList.isEmpty = true := by rw [bs_isEmpty]; rfl
  have hz : bs 0 = ⟨#[]⟩ := bs_zero
  have HZ := Lib.hid hz
  clear ha hz
  go_enter Tryz.func50, Tryz.ntmps50
  go_wp2_with fail
  refine (valid_yes HA.out _).mono ?_
  rintro e w' ⟨rfl, rfl⟩
  go_wp2_with fail
  refine (valid_yes (show 0 < Top by unfold Top; decide) _).mono ?_
  rintro e w' ⟨rfl, rfl⟩
  go_wp2
  go_ret3
  exact ⟨by rw [HZ.out]; rfl, rfl⟩
end Go.Proofs.YtmiafkbjmkaebaaGreat

namespace Go.Proofs.YtmiafkbjmkaebaaGreat
open Go.RowKit Num

/-- The number of a string value. -/
def strVal (v : Value) : Nat := match v with
  | .string s => bval s.data.toList
  | _ => 0
theorem strVal_bs (n : Nat) : strVal (.string (bs n)) = n := by show bval (bs n).data.toList = n; rw [bs_data, bval_cb]
theorem bs_ne (b : Nat) : (bs b).toList.isEmpty = (b == 0) := bs_isEmpty b

/-- How many binary digits a number has. -/
def nb (n : Nat) : Nat := if n = 0 then 0 else Nat.log2 n + 1
theorem nb_zero : nb 0 = 0 := by simp [nb]
theorem nb_of {n k : Nat} (h1 : 2 ^ k ≤ n) (h2 : n < 2 ^ (k + 1)) : nb n = k + 1 := by
  have h0 : n ≠ 0 := by have := Nat.pow_pos (a := 2) (n := k) (by decide); omega
  unfold nb
  rw [if_neg h0, (Nat.log2_eq_iff h0).2 ⟨h1, h2⟩]
theorem nb_bounds {n : Nat} (h0 : n ≠ 0) : 2 ^ (nb n - 1) ≤ n ∧ n < 2 ^ nb n ∧ 0 < nb n := by
  unfold nb
  rw [if_neg h0, Nat.add_sub_cancel]
  have := (Nat.log2_eq_iff (k := Nat.log2 n) h0).1 rfl
  exact ⟨this.1, this.2, by omega⟩
theorem nb_bytes {n : Nat} (h0 : n ≠ 0) (hp : 0 < (bs n).size) : nb n = 8 * ((bs n).size - 1) + Lib.bitLen ((bs n)[0]).toNat := by
  have hc : (cb n).length = (bs n).size := (bs_size n).symm
  obtain ⟨b, l, hbl⟩ : ∃ b l, cb n = b :: l := by
    cases h : cb n with
    | nil => exact absurd (cb_eq_nil.1 h) h0
    | cons b l => exact ⟨b, l, rfl⟩
  have hb0 : (bs n)[0] = b := by rw [bs_getElem n 0 hp]; simp [hbl]
  have hv := bval_cb n
  rw [hbl, bval_cons] at hv
  have hl := bval_lt l
  have hb : b.toNat ≠ 0 := by
    intro e
    have := can_cb n
    rw [hbl] at this
    apply this
    simp
    exact UInt8.toNat_inj.1 (by rw [e]; rfl)
  have hbt := byte_lt b
  obtain ⟨h1, h2, h3⟩ := bitLen_pow 8 b.toNat (by omega) hbt hb
  rw [hb0]
  have hll : l.length = (bs n).size - 1 := by rw [← hc, hbl]; simp
  rw [hll] at hv hl
  obtain ⟨m, hm⟩ : ∃ m, Lib.bitLen b.toNat = m + 1 := ⟨Lib.bitLen b.toNat - 1, by omega⟩
  rw [hm, Nat.add_sub_cancel] at h1
  rw [hm] at h2 ⊢
  generalize (bs n).size - 1 = k at *
  have e8 : (256 : Nat) ^ k = 2 ^ (8 * k) := by rw [Nat.pow_mul]
  rw [e8] at hv hl
  rw [← Nat.add_assoc]
  apply nb_of
  · rw [Nat.pow_add, Nat.mul_comm]
    have : 2 ^ m * 2 ^ (8 * k) ≤ b.toNat * 2 ^ (8 * k) := Nat.mul_le_mul_right _ h1
    omega
  · rw [Nat.add_assoc, Nat.pow_add, Nat.mul_comm]
    have : (b.toNat + 1) * 2 ^ (8 * k) ≤ 2 ^ (m + 1) * 2 ^ (8 * k) := Nat.mul_le_mul_right _ h2
    rw [Nat.add_mul] at this
    omega

set_option maxHeartbeats 400000 in
theorem bits_ok {a : Nat} (ha : a < Top) (w : World) :
    Calls Tryz.prog 112 #[.string (bs a)] w (Same w (.int .i64 (nb a : Nat))) := by
  have hs := bs_small ha
  have HA := Lib.hid ha
  by_cases h0 : a = 0
  · have he : (bs a).toList.isEmpty = true := by rw [bs_isEmpty]; simpa using h0
    have hn : nb a = 0 := by rw [h0, nb_zero]
    have HN := Lib.hid hn
    clear h0 hn ha
    go_enter Tryz.func112, Tryz.ntmps112
    go_wp2
    go_ret
    exact ⟨by rw [HN.out]; rfl, rfl⟩
  · have he : (bs a).toList.isEmpty = false := by rw [bs_isEmpty]; simpa using h0
    have hp := bs_pos h0
    have HN := Lib.hid (nb_bytes h0 hp)
    have hbl : Lib.bitLen ((bs a)[0]).toNat ≤ 8 := Lib.bitLen_le _ 8 (by omega) (byte_lt _)
    obtain ⟨b, hb⟩ : ∃ b : Nat, (bs a)[0].toNat = b := ⟨_, rfl⟩
    have hbb : b < 256 := by rw [← hb]; exact byte_lt _
    rw [hb] at hbl HN
    have hbi : ((bs a)[0].toNat : Int) = (b : Int) := by rw [hb]
    clear h0 ha hb
    go_enter Tryz.func112, Tryz.ntmps112
    go_wp2_with (first | (go_at_call 31; refine (valid_yes HA.out _).mono ?_; rintro e w' ⟨rfl, rfl⟩) | (go_at_call 131; refine (len8_any (b : Int) (by omega) (by omega) _).mono ?_; rintro e w' ⟨rfl, rfl⟩))
    go_ret
    exact ⟨ret_int (by rw [HN.out]; omega), rfl⟩

theorem pow_byte (k : Nat) : cb (2 ^ k) = UInt8.ofNat (2 ^ (k % 8)) :: List.replicate (k / 8) 0 := by
  have h : 2 ^ (k % 8) < 256 := by
    have := Nat.pow_le_pow_right (n := 2) (by decide) (show k % 8 ≤ 7 by omega)
    omega
  have hv : bval (UInt8.ofNat (2 ^ (k % 8)) :: List.replicate (k / 8) 0) = 2 ^ k := by
    rw [bval_cons, UInt8.toNat_ofNat', List.length_replicate]
    have hz : ∀ m, bval (List.replicate m 0) = 0 := by
      intro m
      induction m with
      | zero => rfl
      | succ m ih => rw [List.replicate_succ, bval_cons, ih]; simp
    rw [hz, Nat.mod_eq_of_lt (by simpa using h), show (256 : Nat) = 2 ^ 8 from by decide, ← Nat.pow_mul, ← Nat.pow_add, Nat.add_zero]
    congr 1
    omega
  rw [← hv, cb_bval]
  unfold Num.Can
  simp only [List.head?_cons, ne_eq, Option.some.injEq]
  intro e
  have h2 : (UInt8.ofNat (2 ^ (k % 8))).toNat = 0 := by rw [e]; rfl
  rw [UInt8.toNat_ofNat', Nat.mod_eq_of_lt (by simpa using h)] at h2
  have := Nat.pow_pos (a := 2) (n := k % 8) (by decide)
  omega
end Go.Proofs.YtmiafkbjmkaebaaGreat

namespace Go.Proofs.YtmiafkbjmkaebaaGreat
open Go.RowKit Num

/-- s is the integer root of a. -/
def IsRoot (a s : Nat) : Prop := s * s ≤ a ∧ a < (s + 1) * (s + 1)
theorem root_ex (a : Nat) : ∃ s, IsRoot a s := by
  induction a with
  | zero => exact ⟨0, by simp [IsRoot]⟩
  | succ a ih =>
    obtain ⟨s, h1, h2⟩ := ih
    by_cases h : (s + 1) * (s + 1) ≤ a + 1
    · refine ⟨s + 1, h, ?_⟩
      have : (s + 1 + 1) * (s + 1 + 1) = (s + 1) * (s + 1) + 2 * (s + 1) + 1 := by grind
      omega
    · exact ⟨s, by omega, by omega⟩
theorem root_unique {a s t : Nat} (hs : IsRoot a s) (ht : IsRoot a t) : s = t := by
  have h1 : ∀ {x y : Nat}, IsRoot a x → IsRoot a y → x ≤ y := by
    intro x y hx hy
    apply Decidable.byContradiction
    intro hc
    have : (y + 1) * (y + 1) ≤ x * x := Nat.mul_le_mul (by omega) (by omega)
    have := hx.1
    have := hy.2
    omega
  exact Nat.le_antisymm (h1 hs ht) (h1 ht hs)
theorem newton_ge {a s x : Nat} (h : s * s ≤ a) (hx : 0 < x) : s ≤ (x + a / x) / 2 := by
  rw [Nat.le_div_iff_mul_le (by decide)]
  apply Decidable.byContradiction
  intro hc
  have hd := Nat.div_add_mod a x
  have hm := Nat.mod_lt a hx
  generalize a / x = q at *
  have h1 : a < x * (q + 1) := by rw [Nat.mul_add]; omega
  have h2 : x + (q + 1) ≤ 2 * s := by omega
  have h3 : (x + (q + 1)) * (x + (q + 1)) ≤ 2 * s * (2 * s) := Nat.mul_le_mul h2 h2
  have h4 : 4 * (x * (q + 1)) ≤ (x + (q + 1)) * (x + (q + 1)) := by
    generalize q + 1 = y
    rcases Nat.le_total x y with g | g
    · obtain ⟨d, rfl⟩ := Nat.le.dest g
      have : (x + (x + d)) * (x + (x + d)) = 4 * (x * (x + d)) + d * d := by grind
      omega
    · obtain ⟨d, rfl⟩ := Nat.le.dest g
      have : (y + d + y) * (y + d + y) = 4 * ((y + d) * y) + d * d := by grind
      omega
  have h5 : 2 * s * (2 * s) = 4 * (s * s) := by grind
  omega
theorem newton_stop {a s x : Nat} (hs : IsRoot a s) (hx : s ≤ x) (hx0 : 0 < x) (h : x ≤ (x + a / x) / 2) : x = s := by
  have h1 : x ≤ a / x := by omega
  rw [Nat.le_div_iff_mul_le hx0] at h1
  have h2 := hs.2
  apply Decidable.byContradiction
  intro hc
  have : (s + 1) * (s + 1) ≤ x * x := Nat.mul_le_mul (by omega) (by omega)
  omega
theorem newton_small {a s x : Nat} (hs : IsRoot a s) (hx : s ≤ x) (hs0 : 0 < s) : a / x ≤ s + 2 := by
  have h1 : a / x ≤ a / s := Nat.div_le_div_left hx hs0
  have h2 : a / s ≤ s + 2 := by
    have : a < (s + 3) * s := by
      have := hs.2
      have e : (s + 1) * (s + 1) = s * s + 2 * s + 1 := by grind
      have e2 : (s + 3) * s = s * s + 3 * s := by grind
      omega
    have := (Nat.div_lt_iff_lt_mul hs0).2 this
    omega
  exact Nat.le_trans h1 h2
def E1024 : Nat := 8 * 128
def E512 : Nat := 8 * 64
def P512 : Nat := 2 ^ E512
theorem top_pow : Top = 2 ^ E1024 := by unfold Top E1024; rw [show (256 : Nat) = 2 ^ 8 from by decide, ← Nat.pow_mul]
theorem p512_top : 2 * P512 + 2 < Top := by
  rw [top_pow]
  unfold P512
  have h0 : E512 + 2 < E1024 := by decide
  have h1 : 2 ^ (E512 + 2) < 2 ^ E1024 := Nat.pow_lt_pow_right (by decide) h0
  have h2 : 1 ≤ 2 ^ E512 := Nat.pow_pos (by decide)
  rw [Nat.pow_add] at h1
  generalize 2 ^ E512 = p at *
  omega
theorem root_start {a s : Nat} (hs : IsRoot a s) (h0 : a ≠ 0) (ha : a < Top) : s ≤ 2 ^ ((nb a + 1) / 2) ∧ 2 ^ ((nb a + 1) / 2) ≤ P512 ∧ nb a ≤ 1024 := by
  obtain ⟨h1, h2, h3⟩ := nb_bounds h0
  have hn : nb a ≤ 1024 := by
    apply Decidable.byContradiction
    intro hc
    have h0 : E1024 ≤ nb a - 1 := by unfold E1024; omega
    have h4 : 2 ^ E1024 ≤ 2 ^ (nb a - 1) := Nat.pow_le_pow_right (by decide) h0
    rw [← top_pow] at h4
    omega
  refine ⟨?_, Nat.pow_le_pow_right (by decide) (show (nb a + 1) / 2 ≤ E512 by unfold E512; omega), hn⟩
  apply Decidable.byContradiction
  intro hc
  have h6 : 2 ^ ((nb a + 1) / 2) * 2 ^ ((nb a + 1) / 2) ≤ s * s := Nat.mul_le_mul (by omega) (by omega)
  rw [← Nat.pow_add] at h6
  have h7 : 2 ^ nb a ≤ 2 ^ ((nb a + 1) / 2 + (nb a + 1) / 2) := Nat.pow_le_pow_right (by decide) (by omega)
  have := hs.1
  omega

/-- Sqrt hands back the root. -/
def Rooted (w : World) (a : Nat) (e : Ending) (w' : World) : Prop := ∃ s, IsRoot a s ∧ e = .returned (.tuple #[.string (bs s), .int .i64 0]) ∧ Below w.heap.size w w'
theorem bs2 : 2 < Top := by unfold Top; decide

end Go.Proofs.YtmiafkbjmkaebaaGreat
