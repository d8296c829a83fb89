/-
  Contracts of natural.Add and natural.Sub for canonical arguments.
-/
import Derived.Test.YtehpdpcpdfgnlaaNatA
import Derived.Test.YtehpdpcpdfgnlaaDigB
import Derived.Test.YtehpdpcpdfgnlaaDigF
import Derived.Test.YtehpdpcpdfgnlaaDigG
namespace Go.Proofs.Ytehpdpcpdfgnlaa
open Go.RowKit Num

theorem dlen_le {n : Nat} (h : n < Top) : dlen n ≤ 32 := by have := bs_small h; unfold dlen; omega

set_option maxHeartbeats 400000 in
theorem add_ok {a b : Nat} (ha : a < Top) (hb : b < Top) (hv : a + b < Top) (w : World) :
    Calls Try.prog 78 #[.string (bs a), .string (bs b)] w (Made w (.tuple #[.string (bs (a + b)), .int .i64 0])) := by
  have h1 := dlen_le ha
  have h2 := dlen_le hb
  have HA := Lib.hid ha
  have HB := Lib.hid hb
  have HV := Lib.hid hv
  clear ha hb hv
  go_enter Try.func78, Try.ntmps78
  go_wp2_with fail
  refine (valid_yes HA.out _).mono ?_
  rintro e w' ⟨rfl, rfl⟩
  go_wp2_with fail
  refine (valid_yes HB.out _).mono ?_
  rintro e w' ⟨rfl, rfl⟩
  go_wp2_with fail
  refine (digitsof_any a _ HA.out).mono ?_
  rintro e w1 ⟨xs, rfl, hxl, hxs, hxd, hxv, hbx⟩
  have hx32 : xs.length ≤ 32 := by omega
  have HXV := Lib.hid hxv
  clear hxl hxv
  go_wp2_with fail
  refine (digitsof_any b _ HB.out).mono ?_
  rintro e w2 ⟨ys, rfl, hyl, hys, hyd, hyv, hby⟩
  have hy32 : ys.length ≤ 32 := by omega
  have HYV := Lib.hid hyv
  clear hyl hyv
  go_wp2_with fail
  refine (sum_any _ _ xs ys _ _ _ ((IsD.of_dg hxd hxs).below hby) (IsD.of_dg hyd hys) (by omega) (by omega)).mono ?_
  rintro e w3 ⟨zs, rfl, hzl, hzs, hzd, hzv, hbz⟩
  rw [HXV.out, HYV.out] at hzv
  have HZV := Lib.hid hzv
  have hzl2 : zs.length ≤ 33 := by omega
  clear hzv hzl
  go_wp2_with fail
  refine (natof_ok _ zs _ _ (IsD.of_dg hzd hzs) (Nat.le_refl _) (by omega) (by rw [HZV.out]; exact HV.out)).mono ?_
  rintro e w4 ⟨rfl, hb4⟩
  go_wp2
  go_ret2
  exact ⟨by rw [HZV.out]; rfl, ((hbx.trans (hby.mono hbx.size)).trans (hbz.mono (Nat.le_trans hbx.size hby.size))).trans (hb4.mono (Nat.le_trans (Nat.le_trans hbx.size hby.size) hbz.size))⟩

set_option maxHeartbeats 400000 in
theorem add_long {a b : Nat} (ha : a < Top) (hb : b < Top) (hv : Top ≤ a + b) (w : World) :
    Calls Try.prog 78 #[.string (bs a), .string (bs b)] w (Made w (.tuple #[.string (bs 0), .int .i64 5])) := by
  have h1 := dlen_le ha
  have h2 := dlen_le hb
  have HA := Lib.hid ha
  have HB := Lib.hid hb
  have HV := Lib.hid hv
  clear ha hb hv
  go_enter Try.func78, Try.ntmps78
  go_wp2_with fail
  refine (valid_yes HA.out _).mono ?_
  rintro e w' ⟨rfl, rfl⟩
  go_wp2_with fail
  refine (valid_yes HB.out _).mono ?_
  rintro e w' ⟨rfl, rfl⟩
  go_wp2_with fail
  refine (digitsof_any a _ HA.out).mono ?_
  rintro e w1 ⟨xs, rfl, hxl, hxs, hxd, hxv, hbx⟩
  have hx32 : xs.length ≤ 32 := by omega
  have HXV := Lib.hid hxv
  clear hxl hxv
  go_wp2_with fail
  refine (digitsof_any b _ HB.out).mono ?_
  rintro e w2 ⟨ys, rfl, hyl, hys, hyd, hyv, hby⟩
  have hy32 : ys.length ≤ 32 := by omega
  have HYV := Lib.hid hyv
  clear hyl hyv
  go_wp2_with fail
  refine (sum_any _ _ xs ys _ _ _ ((IsD.of_dg hxd hxs).below hby) (IsD.of_dg hyd hys) (by omega) (by omega)).mono ?_
  rintro e w3 ⟨zs, rfl, hzl, hzs, hzd, hzv, hbz⟩
  rw [HXV.out, HYV.out] at hzv
  have HZV := Lib.hid hzv
  have hzl2 : zs.length ≤ 33 := by omega
  clear hzv hzl
  go_wp2_with fail
  refine (natof_long _ zs _ _ (IsD.of_dg hzd hzs) (Nat.le_refl _) (by omega) (by rw [HZV.out]; exact HV.out)).mono ?_
  rintro e w4 ⟨rfl, hb4⟩
  go_wp2
  go_ret2
  exact ⟨rfl, ((hbx.trans (hby.mono hbx.size)).trans (hbz.mono (Nat.le_trans hbx.size hby.size))).trans (hb4.mono (Nat.le_trans (Nat.le_trans hbx.size hby.size) hbz.size))⟩

theorem size_mono {a b : Nat} (h : b ≤ a) : (bs b).size ≤ (bs a).size := by
  rw [bs_le]
  have := cb_lt_pow a
  rw [bs_size]; omega
theorem dlen_mono {a b : Nat} (h : b ≤ a) : dlen b ≤ dlen a := by have := size_mono h; unfold dlen; omega

set_option maxHeartbeats 400000 in
theorem sub_ok {a b : Nat} (ha : a < Top) (hb : b < Top) (hv : b ≤ a) (w : World) :
    Calls Try.prog 59 #[.string (bs a), .string (bs b)] w (Made w (.tuple #[.string (bs (a - b)), .int .i64 0])) := by
  have h1 := dlen_le ha
  have h2 := dlen_le hb
  have HA := Lib.hid ha
  have HB := Lib.hid hb
  have HV := Lib.hid hv
  clear ha hb hv
  go_enter Try.func59, Try.ntmps59
  go_wp2_with fail
  refine (valid_yes HA.out _).mono ?_
  rintro e w' ⟨rfl, rfl⟩
  go_wp2_with fail
  refine (valid_yes HB.out _).mono ?_
  rintro e w' ⟨rfl, rfl⟩
  go_wp2_with fail
  refine (cmp_yes HA.out HB.out _).mono ?_
  rintro e w' ⟨rfl, rfl⟩
  have hcm : 0 ≤ cmpN a b := by have := HV.out; unfold cmpN; rw [if_neg (by omega)]; split <;> omega
  go_wp2_with fail
  refine (digitsof_any a _ HA.out).mono ?_
  rintro e w1 ⟨xs, rfl, hxl, hxs, hxd, hxv, hbx⟩
  have hx32 : xs.length ≤ 32 := by omega
  have HXV := Lib.hid hxv
  have HXL := Lib.hid hxl
  clear hxl hxv
  go_wp2_with fail
  refine (digitsof_any b _ HB.out).mono ?_
  rintro e w2 ⟨ys, rfl, hyl, hys, hyd, hyv, hby⟩
  have hy32 : ys.length ≤ 32 := by omega
  have HLL : Hid (ys.length ≤ xs.length) := Lib.hid (by have := dlen_mono HV.out; have := HXL.out; omega)
  have HYV := Lib.hid hyv
  clear hyl hyv
  go_wp2_with fail
  refine (difference_any _ _ xs ys _ _ _ ((IsD.of_dg hxd hxs).below hby) (IsD.of_dg hyd hys) HLL.out (by rw [HXV.out, HYV.out]; exact HV.out) (by omega)).mono ?_
  rintro e w3 ⟨zs, rfl, hzl, hzs, hzd, hzv, hbz⟩
  rw [HXV.out, HYV.out] at hzv
  have HZV := Lib.hid hzv
  have hzl2 : zs.length ≤ 33 := by omega
  clear hzv hzl
  go_wp2_with fail
  refine (natof_ok _ zs _ _ (IsD.of_dg hzd hzs) (Nat.le_refl _) (by omega) (by rw [HZV.out]; exact Nat.lt_of_le_of_lt (Nat.sub_le _ _) HA.out)).mono ?_
  rintro e w4 ⟨rfl, hb4⟩
  go_wp2
  go_ret2
  exact ⟨by rw [HZV.out]; rfl, ((hbx.trans (hby.mono hbx.size)).trans (hbz.mono (Nat.le_trans hbx.size hby.size))).trans (hb4.mono (Nat.le_trans (Nat.le_trans hbx.size hby.size) hbz.size))⟩

end Go.Proofs.Ytehpdpcpdfgnlaa
