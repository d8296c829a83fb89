/-
  The examples of the chapter on natural numbers hold: dominolaw01.awake returns true.
-/
import Derived.Test.YtbkbjjdjgiapdaaText
import Derived.Test.YtbkbjjdjgiapdaaNatD
import Derived.Test.YtbkbjjdjgiapdaaMul
namespace Go.Proofs.Ytbkbjjdjgiapdaa
open Go.RowKit Num

theorem of_lit (k : Int) (h0 : 0 ≤ k) (h1 : k < 18446744073709551616) (w : World) :
    Calls Try.prog 56 #[.int .u64 k] w (Made w (.string (bs k.toNat))) := by
  have := of_any k.toNat (by omega) w
  rw [show ((k.toNat : Nat) : Int) = k from by omega] at this
  exact this
theorem sub_range {a b : Nat} (ha : a < Top) (hb : b < Top) (hv : a < b) (w : World) :
    Calls Try.prog 59 #[.string (bs a), .string (bs b)] w (Same w (.tuple #[.string (bs 0), .int .i64 2])) := by
  have HA := Lib.hid ha
  have HB := Lib.hid hb
  have hcm : cmpN a b < 0 := by unfold cmpN; rw [if_pos hv]; omega
  have HZ := Lib.hid bs_zero
  clear ha hb hv
  go_enter Try.func59, Try.ntmps59
  go_wp2_with fail
  refine (valid_yes HA.out _).mono ?_
  rintro e w' ⟨rfl, rfl⟩
  go_wp2_with fail
  refine (valid_yes HB.out _).mono ?_
  rintro e w' ⟨rfl, rfl⟩
  go_wp2_with fail
  refine (cmp_yes HA.out HB.out _).mono ?_
  rintro e w' ⟨rfl, rfl⟩
  go_wp2
  go_ret2
  exact ⟨by rw [HZ.out]; rfl, rfl⟩
theorem top_big {n : Nat} (h : n < 18446744073709551616) : n < Top := by unfold Top; exact Nat.lt_trans h (by decide)
theorem cb258 : (bs 258).toList = [1, 2] := by
  rw [bs_toList, cb_pos (by decide), cb_pos (by decide), show 258 / 256 / 256 = 0 from rfl, cb_zero]; rfl
theorem cbff : (bs 4294967295).toList = [255, 255, 255, 255] := by
  rw [bs_toList, cb_pos (by decide), cb_pos (by decide), cb_pos (by decide), cb_pos (by decide), show 4294967295 / 256 / 256 / 256 / 256 = 0 from rfl, cb_zero]; rfl
theorem text258 : (textOf 258).toList = [50, 53, 56] := by
  unfold textOf
  rw [ByteArray.toList_mk, dtext_pos (by decide), dn_pos (by decide), dn_pos (by decide), dn_pos (by decide), show 258 / 10 / 10 / 10 = 0 from rfl, dn_zero]; rfl

set_option maxHeartbeats 4000000 in
set_option maxRecDepth 100000 in
theorem awake_any (w : World) : Calls Try.prog 15 #[] w (Made w (.bool true)) := by
  have hB : Below w.heap.size w w := Below.refl _ _
  have t1 : ((bs 258).toList == [1, 2]) = true := by rw [cb258]; rfl
  have t2 : ((bs 4294967295).toList == [255, 255, 255, 255]) = true := by rw [cbff]; rfl
  have t3 : ((textOf 258).toList == [50, 53, 56]) = true := by rw [text258]; rfl
  go_enter Try.func15, Try.ntmps15
  go_wp2_with (first
    | (go_at_call 56; refine (of_lit _ (by decide) (by decide) _).mono ?_; rintro e w' ⟨rfl, hb⟩; replace hB := hB.trans (hb.mono hB.size); clear hb)
    | (go_at_call 55; refine (mul_ok (a := 65535) (b := 65537) (top_big (by decide)) (top_big (by decide)) (top_big (by decide)) _).mono ?_; rintro e w' ⟨rfl, hb⟩; replace hB := hB.trans (hb.mono hB.size); clear hb)
    | (go_at_call 54; refine (divmod_ok (a := 1000) (b := 7) (top_big (by decide)) (top_big (by decide)) (by decide) _).mono ?_; rintro e w' ⟨rfl, hb⟩; replace hB := hB.trans (hb.mono hB.size); clear hb)
    | (go_at_call 57; refine (gcd_ok (a := 84) (b := 36) (top_big (by decide)) (top_big (by decide)) _).mono ?_; rintro e w' ⟨rfl, hb⟩; replace hB := hB.trans (hb.mono hB.size); clear hb)
    | (go_at_call 58; refine (sqrt_ok (a := 99) (top_big (by decide)) _).mono ?_; rintro e w' ⟨s, hs, rfl, hb⟩; obtain rfl : s = 9 := root_unique hs ⟨by decide, by decide⟩; replace hB := hB.trans (hb.mono hB.size); clear hb hs)
    | (go_at_call 59; refine (sub_range (a := 1) (b := 2) (top_big (by decide)) (top_big (by decide)) (by decide) _).mono ?_; rintro e w' ⟨rfl, rfl⟩)
    | (go_at_call 16; refine (text_pos (a := 258) (top_big (by decide)) (by decide) _).mono ?_; rintro e w' ⟨rfl, hb⟩; replace hB := hB.trans (hb.mono hB.size); clear hb))
  go_ret
  exact ⟨rfl, hB⟩
end Go.Proofs.Ytbkbjjdjgiapdaa
