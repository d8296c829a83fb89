/-
  Contracts of natural.Bit, and the reference's Bits and Bit.
-/
import Derived.Test.YtmiafkbjmkaebaaGreatFew
import Derived.Test.YtmiafkbjmkaebaaGreatRefA
namespace Go.Proofs.YtmiafkbjmkaebaaGreat
open Go.RowKit Num

theorem nb_size {a i : Nat} (h : i < nb a) : i / 8 < (bs a).size := by
  by_cases ha : a = 0
  · rw [ha, nb_zero] at h; omega
  · have hp := bs_pos ha
    have := nb_bytes ha hp
    have hl8 : Lib.bitLen ((bs a)[0]).toNat ≤ 8 := Lib.bitLen_le _ 8 (by omega) (byte_lt _)
    omega

set_option maxHeartbeats 400000 in
theorem bit_yes {a : Nat} (ha : a < Top) (i : Nat) (hi : i < nb a) (w : World) :
    Calls Tryz.prog 113 #[.string (bs a), .int .i64 i] w (Same w (.bool (bitB a i))) := by
  have hs := bs_small ha
  have hlt := nb_size hi
  have hnb : nb a ≤ 1024 := by
    by_cases h0 : a = 0
    · rw [h0, nb_zero]; omega
    · obtain ⟨s, hs⟩ := root_ex a
      exact (root_start hs h0 ha).2.2
  obtain ⟨p, hp⟩ : ∃ p, p + 1 + i / 8 = (bs a).size := ⟨(bs a).size - 1 - i / 8, by omega⟩
  have hpe : ((bs a).size : Int) - 1 - (i : Int) / 8 = (p : Int) := by omega
  have hps : p < (bs a).size := by omega
  have hb := byteN_get hp hps
  have hbl : byteN a (i / 8) < 256 := Nat.mod_lt _ (by decide)
  have hbb := bit_of_byte a i
  obtain ⟨b, hbd⟩ : ∃ b, byteN a (i / 8) = b := ⟨_, rfl⟩
  rw [hbd] at hb hbl hbb
  have hb' : ((bs a)[p].toNat : Int) = (b : Int) := by rw [hb]
  obtain ⟨v, hv⟩ : ∃ v, v = b / 2 ^ (i % 8) := ⟨_, rfl⟩
  have hvb : v ≤ b := by rw [hv]; exact Nat.div_le_self _ _
  have hvi : (b : Int) / 2 ^ (i % 8) = (v : Int) := by rw [hv]; simp
  have hand : bits BinOp.and IntKind.u8 (v : Int) 1 = ((v % 2 : Nat) : Int) := by
    have := u8_and_nat v 1 (by omega) (by omega)
    rw [nat_mask1] at this
    exact this
  rw [← hv] at hbb
  have HA := Lib.hid ha
  rcases (show v % 2 = 1 ∨ v % 2 = 0 by omega) with h | h
  · have HF : Hid (bitB a i = true) := Lib.hid (by unfold bitB; rw [← hbb, h]; rfl)
    rw [h] at hand
    clear hb hbd hv hbb hp ha h
    go_enter Tryz.func113, Tryz.ntmps113
    go_wp2_with (go_at_call 112; refine (bits_ok HA.out _).mono ?_; rintro e w' ⟨rfl, rfl⟩)
    go_ret
    exact ⟨by rw [HF.out]; rfl, rfl⟩
  · have HF : Hid (bitB a i = false) := Lib.hid (by unfold bitB; rw [← hbb, h]; rfl)
    rw [h] at hand
    clear hb hbd hv hbb hp ha h
    go_enter Tryz.func113, Tryz.ntmps113
    go_wp2_with (go_at_call 112; refine (bits_ok HA.out _).mono ?_; rintro e w' ⟨rfl, rfl⟩)
    go_ret
    exact ⟨by rw [HF.out]; rfl, rfl⟩
end Go.Proofs.YtmiafkbjmkaebaaGreat
