/-
  The examples of the chapter on natural numbers hold: dominolaw01.awake returns true.
-/
import Derived.Test.YtmiafkbjmkaebaaGreatText
import Derived.Test.YtmiafkbjmkaebaaGreatNatD
import Derived.Test.YtmiafkbjmkaebaaGreatMul
namespace Go.Proofs.YtmiafkbjmkaebaaGreat
open Go.RowKit Num

theorem of_lit (k : Int) (h0 : 0 ≤ k) (h1 : k < 18446744073709551616) (w : World) :
    Calls Tryz.prog 34 #[.int .u64 k] w (Made w (.string (bs k.toNat))) := by
  have := of_any k.toNat (by omega) w
  rw [show ((k.toNat : Nat) : Int) = k from by omega] at this
  exact this
theorem sub_range {a b : Nat} (ha : a < Top) (hb : b < Top) (hv : a < b) (w : World) :
    Calls Tryz.prog 49 #[.string (bs a), .string (bs b)] w (Same w (.tuple #[.string (bs 0), .int .i64 2])) := by
  have HA := Lib.hid ha
  have HB := Lib.hid hb
  have hcm : cmpN a b < 0 := by unfold cmpN; rw [if_pos hv]; omega
  have HZ := Lib.hid bs_zero
  clear ha hb hv
  go_enter Tryz.func49, Tryz.ntmps49
  go_wp2_with fail
  refine (valid_yes HA.out _).mono ?_
  rintro e w' ⟨rfl, rfl⟩
  go_wp2_with fail
  refine (valid_yes HB.out _).mono ?_
  rintro e w' ⟨rfl, rfl⟩
  go_wp2_with fail
  refine (cmp_yes HA.out HB.out _).mono ?_
  rintro e w' ⟨rfl, rfl⟩
  go_wp2
  go_ret2
  exact ⟨by rw [HZ.out]; rfl, rfl⟩
theorem top_big {n : Nat} (h : n < 18446744073709551616) : n < Top := by unfold Top; exact Nat.lt_trans h (by decide)
theorem cb258 : (bs 258).toList = [1, 2] := by
  rw [bs_toList, cb_pos (by decide), cb_pos (by decide), show 258 / 256 / 256 = 0 from rfl, cb_zero]; rfl
theorem cbff : (bs 4294967295).toList = [255, 255, 255, 255] := by
  rw [bs_toList, cb_pos (by decide), cb_pos (by decide), cb_pos (by decide), cb_pos (by decide), show 4294967295 / 256 / 256 / 256 / 256 = 0 from rfl, cb_zero]; rfl
theorem text258 : (textOf 258).toList = [50, 53, 56] := by
  unfold textOf
  rw [ByteArray.toList_mk, dtext_pos (by decide), dn_pos (by decide), dn_pos (by decide), dn_pos (by decide), show 258 / 10 / 10 / 10 = 0 from rfl, dn_zero]; rfl

end Go.Proofs.YtmiafkbjmkaebaaGreat
