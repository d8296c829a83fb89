/-
  Contracts of natural.DivMod for canonical arguments.
-/
import Derived.Test.YtehpdpcpdfgnlaaDivide
import Derived.Test.YtehpdpcpdfgnlaaNatC
namespace Go.Proofs.Ytehpdpcpdfgnlaa
open Go.RowKit Num

theorem trim_digits {n : Nat} {zs : List Nat} (hl : zs.length = dlen n) (hs : Small zs) (hv : dv B32 zs = n) : Trim zs := by
  by_cases h0 : n = 0
  · left
    apply List.length_eq_zero_iff.1
    rw [hl, h0]
    unfold dlen
    rw [bs_zero]
    rfl
  · right
    intro hc
    have hp := bs_pos h0
    have hlen : 0 < zs.length := by rw [hl]; unfold dlen; omega
    have h1 := dv_take_next B32 zs (zs.length - 1)
    rw [show zs.length - 1 + 1 = zs.length from by omega, List.take_length, hc, hv] at h1
    have h2 := (hs.take (zs.length - 1)).dv_lt
    rw [List.length_take, Nat.min_eq_left (by omega)] at h2
    have h3 := cb_pow_le h0
    rw [← bs_size] at h3
    have h4 : B32 ^ (zs.length - 1) ≤ 256 ^ ((bs n).size - 1) := by
      have : B32 = 256 ^ 4 := by decide
      rw [this, ← Nat.pow_mul]
      exact Nat.pow_le_pow_right (by decide) (by rw [hl]; unfold dlen; omega)
    omega

theorem divide_any (A B : Option Addr) (X Y : List Nat) (cx cy : Nat) (w : World) (hX : IsD w A X) (hY : IsD w B Y) (hYt : Trim Y) (hy0 : 0 < Y.length) (hcx : X.length ≤ cx) (hx : X.length ≤ 33) (hy : Y.length ≤ 33) :
    Calls Try.prog 88 #[.slice A X.length cx, .slice B Y.length cy] w (Divided w X Y) := by
  rcases Nat.lt_or_ge X.length Y.length with h | h
  · exact divide_lt A B X Y cx cy w hX hYt h hcx (by omega)
  · by_cases h1 : Y.length = 1
    · have := divide_one A B X Y cx cy w hX hY hYt (by omega) h1 (by omega)
      rw [h1]
      exact this
    · obtain ⟨n, hn⟩ : ∃ n, Y.length = n + 2 := ⟨Y.length - 2, by omega⟩
      obtain ⟨L, hL⟩ : ∃ L, X.length = L + (n + 1) := ⟨X.length - (n + 1), by omega⟩
      have := divide_long A B X Y n L cx cy w hX hY hYt hn hL (by omega) (by omega)
      rw [hn, hL]
      exact this

theorem dlen_pos {b : Nat} (h : b ≠ 0) : 0 < dlen b := by have := bs_pos h; unfold dlen; omega

set_option maxHeartbeats 1000000 in
set_option maxRecDepth 100000 in
theorem divmod_ok {a b : Nat} (ha : a < Top) (hb : b < Top) (h0 : b ≠ 0) (w : World) :
    Calls Try.prog 54 #[.string (bs a), .string (bs b)] w (Made w (.tuple #[.string (bs (a / b)), .string (bs (a % b)), .int .i64 0])) := by
  have h1 := dlen_le ha
  have h2 := dlen_le hb
  have h3 := dlen_pos h0
  have HA := Lib.hid ha
  have HB := Lib.hid hb
  have H0 := Lib.hid h0
  have he : (bs b).toList.isEmpty = false := by rw [bs_isEmpty]; simpa using h0
  clear ha hb h0
  go_enter Try.func54, Try.ntmps54
  go_wp2_with fail
  refine (valid_yes HA.out _).mono ?_
  rintro e w' ⟨rfl, rfl⟩
  go_wp2_with fail
  refine (valid_yes HB.out _).mono ?_
  rintro e w' ⟨rfl, rfl⟩
  go_wp2_with fail
  refine (digitsof_any a _ HA.out).mono ?_
  rintro e w1 ⟨xs, rfl, hxl, hxs, hxd, hxv, hbx⟩
  have hx32 : xs.length ≤ 32 := by omega
  have HXV := Lib.hid hxv
  clear hxl hxv
  go_wp2_with fail
  refine (digitsof_any b _ HB.out).mono ?_
  rintro e w2 ⟨ys, rfl, hyl, hys, hyd, hyv, hby⟩
  have hy32 : ys.length ≤ 32 := by omega
  have hyp : 0 < ys.length := by omega
  have HYV := Lib.hid hyv
  have HYT := Lib.hid (trim_digits hyl hys hyv)
  clear hyl hyv
  go_wp2_with fail
  refine (divide_any _ _ xs ys _ _ _ ((IsD.of_dg hxd hxs).below hby) (IsD.of_dg hyd hys) HYT.out hyp (Nat.le_refl _) (by omega) (by omega)).mono ?_
  rintro e w3 ⟨A1, A2, Q, R, c1, c2, rfl, hQ, hR, hc1, hc2, hl1, hl2, hQv, hRv, hb3⟩
  rw [HXV.out, HYV.out] at hQv hRv
  have HQV := Lib.hid hQv
  have HRV := Lib.hid hRv
  clear hQv hRv
  go_wp2_with fail
  refine (natof_ok A1 Q c1 _ hQ hc1 (by omega) (by rw [HQV.out]; exact Nat.lt_of_le_of_lt (Nat.div_le_self _ _) HA.out)).mono ?_
  rintro e w4 ⟨rfl, hb4⟩
  go_wp2_with fail
  refine (natof_ok A2 R c2 _ (hR.below hb4) hc2 (by omega) (by rw [HRV.out]; exact Nat.lt_of_le_of_lt (Nat.mod_le _ _) HA.out)).mono ?_
  rintro e w5 ⟨rfl, hb5⟩
  go_wp2
  go_ret3
  have b2 : Below w.heap.size w w2 := hbx.trans (hby.mono hbx.size)
  have b3 := b2.trans (hb3.mono b2.size)
  have b4 := b3.trans (hb4.mono b3.size)
  exact ⟨by rw [HQV.out, HRV.out]; rfl, b4.trans (hb5.mono b4.size)⟩

set_option maxHeartbeats 400000 in
theorem divmod_zero {a : Nat} (ha : a < Top) (w : World) :
    Calls Try.prog 54 #[.string (bs a), .string (bs 0)] w (Same w (.tuple #[.string (bs 0), .string (bs 0), .int .i64 11])) := by
  have HA := Lib.hid ha
  have he : (bs 0).toList.isEmpty = true := by rw [bs_isEmpty]; rfl
  have hz : bs 0 = ⟨#[]⟩ := bs_zero
  have HZ := Lib.hid hz
  clear ha hz
  go_enter Try.func54, Try.ntmps54
  go_wp2_with fail
  refine (valid_yes HA.out _).mono ?_
  rintro e w' ⟨rfl, rfl⟩
  go_wp2_with fail
  refine (valid_yes (show 0 < Top by unfold Top; decide) _).mono ?_
  rintro e w' ⟨rfl, rfl⟩
  go_wp2
  go_ret3
  exact ⟨by rw [HZ.out]; rfl, rfl⟩
end Go.Proofs.Ytehpdpcpdfgnlaa
