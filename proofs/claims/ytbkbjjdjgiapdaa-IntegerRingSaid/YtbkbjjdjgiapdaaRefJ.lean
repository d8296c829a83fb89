/-
  The contract of the reference's Text.
-/
import Derived.Test.YtbkbjjdjgiapdaaConM
import Derived.Test.YtbkbjjdjgiapdaaText
namespace Go.Proofs.Ytbkbjjdjgiapdaa
open Go.RowKit Num

theorem bs_ten : bs 10 = ⟨#[10]⟩ := by unfold bs; rw [cb_pos (by decide), show 10 / 256 = 0 from rfl, cb_zero]; rfl
theorem over_ten (x : Nat) (W : World) (h : (bs x).size ≤ 2000) : Calls Try.prog 65 #[.string (bs x), .string ⟨#[10]⟩] W (Made W (.tuple #[.string (bs (x / 10)), .string (bs (x % 10))])) := by
  have := rover_any x 10 W h (by rw [bs_ten]; show (1 : Nat) ≤ 2000; decide) (by decide)
  rw [bs_ten] at this
  exact this
/-- The last d digits of a number's text. -/
def tailText (d a : Nat) : ByteArray := ⟨(ldk d a).reverse.toArray⟩
theorem tail_next (d a : Nat) : tailText (d + 1) a = (⟨#[UInt8.ofNat (48 + a / 10 ^ d % 10)]⟩ : ByteArray) ++ tailText d a := by
  unfold tailText
  rw [ldk_snoc]
  apply ByteArray.ext
  simp
theorem tail_size (d a : Nat) : (tailText d a).size = d := by
  rw [← size_toList]; simp [tailText, ldk_length]
theorem digit_slice (r : Nat) (h : r < 10) : (⟨#[48, 49, 50, 51, 52, 53, 54, 55, 56, 57]⟩ : ByteArray).extract r (r + 1) = ⟨#[UInt8.ofNat (48 + r)]⟩ := by
  have : r = 0 ∨ r = 1 ∨ r = 2 ∨ r = 3 ∨ r = 4 ∨ r = 5 ∨ r = 6 ∨ r = 7 ∨ r = 8 ∨ r = 9 := by omega
  rcases this with rfl | rfl | rfl | rfl | rfl | rfl | rfl | rfl | rfl | rfl <;> rfl

set_option maxHeartbeats 1000000 in
set_option maxRecDepth 100000 in
theorem rtext_pos {a : Nat} (ha : a < Top) (h0 : a ≠ 0) (w : World) :
    Calls Try.prog 17 #[.string (bs a)] w (Made w (.tuple #[.string (textOf a), .int .i64 0])) := by
  have HA := Lib.hid ha
  have h1 := bs_small ha
  have he : (bs a).toList.isEmpty = false := by rw [bs_isEmpty]; simpa using h0
  have HTX := Lib.hid (show tailText (dn a) a = textOf a by unfold tailText textOf; rw [dtext_pos h0])
  have hdn : dn a ≤ 309 := by have := dn_le (Nat.lt_trans ha top_dec); unfold E309 at this; exact this
  clear ha h0
  go_enter Try.func17, Try.ntmps17
  go_wp2_with fail
  refine (rvalid_yes HA.out _).mono ?_
  rintro e w' ⟨rfl, rfl⟩
  go_wp2
  go_loopw [0, 4] (fun u v wr => ∃ d x : Nat, Hid (d + dn x = dn a) ∧ d ≤ 309 ∧ Hid (x = a / 10 ^ d) ∧ u = .string (bs x) ∧ v = .string (tailText d a) ∧ Below w.heap.size w wr) (fun u _ _ => strVal u)
  case atStart => exact ⟨0, a, Lib.hid (by omega), by omega, Lib.hid (by simp), rfl, rfl, Below.refl _ _⟩
  case round =>
    obtain ⟨d, x, HDN, hd, HX, rfl, rfl, hbel⟩ := hrel
    by_cases hx0 : x = 0
    · have he : (bs x).toList.isEmpty = true := by rw [bs_isEmpty]; simpa using hx0
      have hda : d = dn a := by have := HDN.out; rw [hx0, dn_zero] at this; omega
      have HDA := Lib.hid hda
      clear hda hx0
      go_wp2
      go_ret2
      exact ⟨by rw [← HTX.out, ← HDA.out]; rfl, hbel⟩
    · have he : (bs x).toList.isEmpty = false := by rw [bs_isEmpty]; simpa using hx0
      have hxs : (bs x).size ≤ 128 := bs_mono (by rw [HX.out]; exact Nat.div_le_self _ _) h1
      have HMS := Lib.hid (show strVal (.string (bs (x / 10))) < strVal (.string (bs x)) by rw [strVal_bs, strVal_bs]; omega)
      have HX0 := Lib.hid hx0
      have HDP := Lib.hid (dn_pos hx0)
      obtain ⟨r, hr⟩ : ∃ r, r = x % 10 := ⟨_, rfl⟩
      have hr10 : r < 10 := by omega
      have HO := Lib.hid (fun W => over_ten x W (by omega))
      rw [← hr] at HO
      have HR := Lib.hid hr
      have HB := hbel
      have hts := tail_size d a
      clear hr hx0 hbel
      go_wp2_with fail
      refine (HO.out _).mono ?_
      rintro e w1 ⟨rfl, hb1⟩
      replace HB := HB.trans (hb1.mono HB.size); clear hb1
      go_wp2_with fail
      refine (ru64_any r _ (by omega)).mono ?_
      rintro e w' ⟨rfl, rfl⟩
      go_wp2_with fail
      refine (ru64_any r _ (by omega)).mono ?_
      rintro e w' ⟨rfl, rfl⟩
      go_wp2
      go_roundw
      case rel => exact ⟨d + 1, x / 10, Lib.hid (by have := HDN.out; have := HDP.out; omega), by have := HDN.out; have := HDP.out; omega, Lib.hid (by rw [HX.out, Nat.div_div_eq_div_mul, Nat.pow_succ]), rfl, by rw [digit_slice r hr10, tail_next, ← HX.out, ← HR.out], HB⟩
      case measure => exact HMS.out

set_option maxHeartbeats 400000 in
theorem rtext_zero (w : World) :
    Calls Try.prog 17 #[.string (bs 0)] w (Same w (.tuple #[.string (textOf 0), .int .i64 0])) := by
  have he : (bs 0).toList.isEmpty = true := by rw [bs_isEmpty]; rfl
  have HT := Lib.hid (show textOf 0 = ⟨#[48]⟩ from by unfold textOf; rw [dtext_zero])
  go_enter Try.func17, Try.ntmps17
  go_wp2_with fail
  refine (rvalid_yes (show 0 < Top by unfold Top; decide) _).mono ?_
  rintro e w' ⟨rfl, rfl⟩
  go_wp2
  go_ret2
  exact ⟨by rw [HT.out]; rfl, rfl⟩

set_option maxHeartbeats 400000 in
theorem text_no (s : ByteArray) (w : World) (hs : s.size ≤ 9223372036854775807) (hv : validB s = false) :
    Calls Try.prog 16 #[.string s] w (Same w (.tuple #[.string (bs 0), .int .i64 3])) := by
  have HZ := Lib.hid bs_zero
  have V1 := Lib.hid (fun W => valid_no hv W hs)
  clear hv
  go_enter Try.func16, Try.ntmps16
  go_wp2_with fail
  refine (V1.out _).mono ?_
  rintro e w' ⟨rfl, rfl⟩
  go_wp2
  go_ret2
  exact ⟨by rw [HZ.out]; rfl, rfl⟩

set_option maxHeartbeats 400000 in
theorem rtext_no (s : ByteArray) (w : World) (hs : s.size ≤ 9223372036854775807) (hv : validB s = false) :
    Calls Try.prog 17 #[.string s] w (Same w (.tuple #[.string (bs 0), .int .i64 3])) := by
  have HZ := Lib.hid bs_zero
  have V1 := Lib.hid (fun W => rvalid_no hv W hs)
  clear hv
  go_enter Try.func17, Try.ntmps17
  go_wp2_with fail
  refine (V1.out _).mono ?_
  rintro e w' ⟨rfl, rfl⟩
  go_wp2
  go_ret2
  exact ⟨by rw [HZ.out]; rfl, rfl⟩
end Go.Proofs.Ytbkbjjdjgiapdaa
