/-
  The contract of modular.withoutTwos.
-/
import Derived.Test.YtppdolmeeiookaaGreatModN
import Derived.Test.YtppdolmeeiookaaGreatLawA
import Derived.Test.YtppdolmeeiookaaGreatText
namespace Go.Proofs.YtppdolmeeiookaaGreat
open Go.RowKit Num

theorem bit_low {s d i : Nat} (h : i < s) : bitB (2 ^ s * d) i = false := by
  unfold bitB
  obtain ⟨k, rfl⟩ : ∃ k, s = i + 1 + k := ⟨s - i - 1, by omega⟩
  rw [show 2 ^ (i + 1 + k) * d = 2 ^ i * (2 * (2 ^ k * d)) from by rw [Nat.pow_add, Nat.pow_succ]; ac_rfl, Nat.mul_div_cancel_left _ (Nat.pow_pos (by decide)), Nat.mul_mod_right]
  rfl
theorem bit_at {s d : Nat} (h : d % 2 = 1) : bitB (2 ^ s * d) s = true := by
  unfold bitB
  rw [Nat.mul_div_cancel_left _ (Nat.pow_pos (by decide)), h]
  rfl
theorem bit_nb {a i : Nat} (h : bitB a i = true) : i < nb a := by
  unfold bitB at h
  rcases Nat.lt_or_ge i (nb a) with hh | hh
  · exact hh
  · exfalso
    have : a < 2 ^ nb a := by
      rcases Nat.eq_zero_or_pos a with h | h
      · subst h; exact Nat.pow_pos (by decide)
      · exact (nb_bounds (by omega)).2.1
    rw [Nat.div_eq_of_lt (Nat.lt_of_lt_of_le this (Nat.pow_le_pow_right (by decide) hh))] at h
    simp at h

theorem pow2_bs (s : Nat) : (⟨(((List.replicate (s / 8 + 1) 0).set 0 (UInt8.ofNat (2 ^ (s % 8)))).drop 0).toArray⟩ : ByteArray) = bs (2 ^ s) := by
  have hk : 2 ^ (s % 8) < 256 := Nat.lt_of_lt_of_le (Nat.pow_lt_pow_right (by decide) (Nat.mod_lt s (by decide))) (by decide)
  have hp : 0 < 2 ^ (s % 8) := Nat.pow_pos (by decide)
  have ht : (UInt8.ofNat (2 ^ (s % 8))).toNat = 2 ^ (s % 8) := by rw [UInt8.toNat_ofNat']; omega
  have hl : ((List.replicate (s / 8 + 1) 0).set 0 (UInt8.ofNat (2 ^ (s % 8)))).drop 0 = UInt8.ofNat (2 ^ (s % 8)) :: List.replicate (s / 8) 0 := by rw [List.replicate_succ]; rfl
  have h0 : ∀ k, bval (List.replicate k 0) = 0 := by
    intro k
    induction k with
    | zero => rfl
    | succ k ih => rw [List.replicate_succ, bval_cons, ih]; simp
  have hc : cb (2 ^ s) = UInt8.ofNat (2 ^ (s % 8)) :: List.replicate (s / 8) 0 := by
    have hcan : Num.Can (UInt8.ofNat (2 ^ (s % 8)) :: List.replicate (s / 8) 0) := by
      unfold Num.Can
      rw [List.head?_cons]
      intro h
      injection h with h
      rw [h] at ht
      have : (0 : UInt8).toNat = 0 := rfl
      omega
    rw [← cb_bval hcan, bval_cons, h0, ht, List.length_replicate, Nat.add_zero, show (256 : Nat) = 2 ^ 8 from rfl, ← Nat.pow_mul, ← Nat.pow_add]
    congr 2
    omega
  rw [hl, bs, hc]

set_option maxHeartbeats 1000000 in
set_option maxRecDepth 100000 in
theorem mtwos_ok (a s d : Nat) (w : World) (ha : a < Top) (he : a = 2 ^ s * d) (hd : d % 2 = 1) :
    Calls Tryz.prog 54 #[.string (bs a)] w (Made w (.tuple #[.string (bs d), .int .i64 (s : Int)])) := by
  have hsn : s < nb a := bit_nb (he ▸ bit_at hd)
  have HB := Lib.hid (fun i (h : i < nb a) W => bit_yes ha i h W)
  have H0 := Lib.hid (fun i (h : i < s) => (he ▸ bit_low h : bitB a i = false))
  have H1 := Lib.hid (he ▸ bit_at hd : bitB a s = true)
  have hnb : nb a ≤ 1024 := by
    rcases Nat.eq_zero_or_pos a with h | h
    · rw [h, nb_zero]; omega
    · have h1 := nb_bytes (n := a) (by omega) (bs_pos (by omega))
      have h2 : (bs a).size ≤ 128 := by rw [bs_le]; exact ha
      have h3 : Lib.bitLen ((bs a)[0]'(bs_pos (by omega))).toNat ≤ 8 := Lib.bitLen_le _ 8 (by omega) (byte_lt _)
      omega
  have hs : s < 1024 := by omega
  have HN := Lib.hid hsn
  have h2 : 2 ^ s < Top := Nat.lt_of_le_of_lt (by rw [he]; exact Nat.le_mul_of_pos_right _ (by omega)) ha
  have hq : a / 2 ^ s = d := by rw [he]; exact Nat.mul_div_cancel_left _ (Nat.pow_pos (by decide))
  have HD := Lib.hid (fun W => (by have := divmod_ok ha h2 (Nat.pos_iff_ne_zero.1 (Nat.pow_pos (by decide))) W; rw [hq] at this; exact this : Calls Tryz.prog 49 #[.string (bs a), .string (bs (2 ^ s))] W (Made W (.tuple #[.string (bs d), .string (bs (a % 2 ^ s)), .int .i64 0]))))
  obtain ⟨i0, hi0, hz0, hz1, hz2⟩ := info_parts info_u8
  clear hsn hnb he h2 hq
  go_enter Tryz.func54, Tryz.ntmps54
  go_wp2
  go_loopw [4] (fun x wr => ∃ i : Nat, i ≤ s ∧ x = .int .i64 i ∧ wr = w) (fun x _ => s - (intOf x).toNat)
  case atStart => exact ⟨0, Nat.zero_le _, rfl, rfl⟩
  case round =>
    obtain ⟨i, hi, rfl, rfl⟩ := hrel
    by_cases hlt : i < s
    · have HBi := Lib.hid (fun W => (by have := HB.out i (by have := HN.out; omega) W; rw [H0.out i hlt] at this; exact this : Calls Tryz.prog 53 #[.string (bs a), .int .i64 i] W (Same W (.bool false))))
      go_wp2_with fail
      refine (HBi.out _).mono ?_
      rintro e w1 ⟨rfl, rfl⟩
      go_wp2
      go_roundw
      case rel => exact ⟨i + 1, by omega, by go_num, trivial⟩
      case measure => simp [intOf]; omega
    · obtain rfl : i = s := by omega
      have HBi := Lib.hid (fun W => (by have := HB.out i HN.out W; rw [H1.out] at this; exact this : Calls Tryz.prog 53 #[.string (bs a), .int .i64 i] W (Same W (.bool true))))
      go_wp2_with fail
      refine (HBi.out _).mono ?_
      rintro e w1 ⟨rfl, rfl⟩
      have hsh : 2 ^ (i % 8) < 256 := Nat.lt_of_lt_of_le (Nat.pow_lt_pow_right (by decide) (Nat.mod_lt i (by decide))) (by decide)
      have hx : ((UInt8.ofNat (2 ^ (i % 8))).toNat : Int) = 2 ^ (i % 8) % 256 := by
        rw [UInt8.toNat_ofNat']; norm_cast
      have HX := Lib.hid hx
      clear hx hsh
      go_wp2_with (first
        | (at_make; go_loud (refine wpList_make_full _ rfl _ _ 80 rfl wr.heap.size 5 i0 (.int .u8 0) 1 Tryz.underlying80 hi0 hz0 hz1 _ _ _ _ (i / 8 + 1) rfl rfl (by omega) (by omega) (by rw [hz2]; omega) (by unfold maxLen; omega) (Nat.le_refl _) ?_)
           intro w0 hown0 hgrow0
           have hb0 : Below wr.heap.size wr w0 := (Below.refl _ _).grown hgrow0 (Nat.le_refl _) (fun g hg => by cases hg)
           rw [madeB] at hown0
           have hd0 := Bt.of_own hown0
           have c0 := hd0.cell 0 (by rw [List.length_replicate]; omega)
           have f0 := hd0.frozen 0
           have l0 := hd0.lt
           have hcv := (hd0.set 0 (UInt8.ofNat (2 ^ (i % 8)))).string (P := Tryz.prog) (src := 80) (dst := 22) 0 (i / 8 + 1) (i / 8 + 1) (by simp) Tryz.underlying80 Tryz.underlying5 Tryz.underlying22
           rw [pow2_bs, HX.out] at hcv
           clear hown0 hgrow0 hd0)
        | (go_at_call 49; refine (HD.out _).mono ?_; rintro e w1 ⟨rfl, hb1⟩))
      go_ret2
      exact ⟨rfl, (hb0.setCell (p := ⟨wr.heap.size, 0, none⟩) (Nat.le_refl _) _).trans (hb1.mono (by simpa [World.setCell] using hb0.size))⟩

end Go.Proofs.YtppdolmeeiookaaGreat
