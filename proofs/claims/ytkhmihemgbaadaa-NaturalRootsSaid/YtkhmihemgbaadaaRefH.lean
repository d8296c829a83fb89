/-
  The contracts of the reference's Common, Gcd and twos.
-/
import Derived.Test.YtkhmihemgbaadaaLawMul
namespace Go.Proofs.Ytkhmihemgbaadaa
open Go.RowKit Num

theorem bs_mono {x y k : Nat} (h : x ≤ y) (h2 : (bs y).size ≤ k) : (bs x).size ≤ k := bs_le.2 (Nat.lt_of_le_of_lt h (bs_le.1 h2))

set_option maxHeartbeats 1000000 in
set_option maxRecDepth 100000 in
theorem rcommon_any (a b : Nat) (w : World) (h1 : (bs a).size ≤ 2000) (h2 : (bs b).size ≤ 2000) :
    Calls Try.prog 99 #[.string (bs a), .string (bs b)] w (Made w (.string (bs (Nat.gcd a b)))) := by
  have HA := Lib.hid h1
  have HB := Lib.hid h2
  clear h1 h2
  go_enter Try.func99, Try.ntmps99
  go_wp2
  go_loopw [0, 1] (fun u v wr => ∃ x y : Nat, u = .string (bs x) ∧ v = .string (bs y) ∧ (bs x).size ≤ 2000 ∧ (bs y).size ≤ 2000 ∧ Hid (Nat.gcd x y = Nat.gcd a b) ∧ Below w.heap.size w wr) (fun _ v _ => strVal v)
  case atStart => exact ⟨a, b, rfl, rfl, HA.out, HB.out, Lib.hid rfl, Below.refl _ _⟩
  case round =>
    obtain ⟨x, y, rfl, rfl, HX, HY, HG, hbel⟩ := hrel
    by_cases h0 : y = 0
    · have he : (bs y).toList.isEmpty = true := by rw [bs_isEmpty]; simpa using h0
      have hxg : x = Nat.gcd a b := by rw [← HG.out, h0, Nat.gcd_zero_right]
      have HXG := Lib.hid hxg
      clear h0 hxg
      go_wp2
      go_ret
      exact ⟨by rw [← HXG.out]; rfl, hbel⟩
    · have he : (bs y).toList.isEmpty = false := by rw [bs_isEmpty]; simpa using h0
      go_wp2_with fail
      refine (rover_any x y _ HX HY h0).mono ?_
      rintro e w1 ⟨rfl, hb1⟩
      have HMS := Lib.hid (show strVal (.string (bs (x % y))) < strVal (.string (bs y)) by rw [strVal_bs, strVal_bs]; exact Nat.mod_lt _ (Nat.pos_of_ne_zero h0))
      have hms : (bs (x % y)).size ≤ 2000 := bs_mono (Nat.mod_le _ _) HX
      go_wp2
      go_roundw
      case rel => exact ⟨y, x % y, rfl, rfl, HY, hms, Lib.hid (by rw [← HG.out, Nat.gcd_comm x y, Nat.gcd_rec y x, Nat.gcd_comm]), hbel.trans (hb1.mono hbel.size)⟩
      case measure => exact HMS.out

set_option maxHeartbeats 1000000 in
set_option maxRecDepth 100000 in
theorem rgcd_ok {a b : Nat} (ha : a < Top) (hb : b < Top) (w : World) :
    Calls Try.prog 43 #[.string (bs a), .string (bs b)] w (Made w (.tuple #[.string (bs (Nat.gcd a b)), .int .i64 0])) := by
  have HA := Lib.hid ha
  have HB := Lib.hid hb
  have HC := Lib.hid (fun W => rcommon_any a b W (Nat.le_trans (bs_small ha) (by decide)) (Nat.le_trans (bs_small hb) (by decide)))
  clear ha hb
  go_enter Try.func43, Try.ntmps43
  go_wp2_with fail
  refine (rvalid_yes HA.out _).mono ?_
  rintro e w' ⟨rfl, rfl⟩
  go_wp2_with fail
  refine (rvalid_yes HB.out _).mono ?_
  rintro e w' ⟨rfl, rfl⟩
  go_wp2_with fail
  refine (HC.out _).mono ?_
  rintro e w1 ⟨rfl, hb1⟩
  go_wp2
  go_ret2
  exact ⟨rfl, hb1⟩

set_option maxHeartbeats 1000000 in
set_option maxRecDepth 100000 in
theorem twos_any (i : Nat) (hi : i ≤ 100000) (w : World) :
    Calls Try.prog 101 #[.int .i64 i] w (Made w (.string (bs (2 ^ i)))) := by
  obtain ⟨i0, hi0, hz0, hz1, hz2⟩ := info_parts info_u8
  have HPB := Lib.hid (pow_byte i)
  have hz8 : i / 8 ≤ 100000 := by omega
  go_enter Try.func101, Try.ntmps101
  go_wp2_with (at_make; refine wpList_make_full _ rfl _ _ 90 rfl w.heap.size 5 i0 (.int .u8 0) 1 Try.underlying90 hi0 hz0 hz1 _ _ _ _ (i / 8 + 1) rfl rfl (by omega) (by omega) (by rw [hz2]; omega) (by unfold maxLen; omega) (Nat.le_refl _) ?_; intro w0 hown0 hgrow0; rw [madeB] at hown0; have hB := Bt.of_own hown0; have hc0 := hB.cell 0 (by simp); have hf0 := hB.frozen 0; have hb0 : Below w.heap.size w w0 := (Below.refl _ _).grown hgrow0 (Nat.le_refl _) (fun g hg => by cases hg); clear hown0 hgrow0)
  have hB1 : Bt (w0.setCell ⟨w.heap.size, 0, none⟩ (.int .u8 1)) w.heap.size ((1 : UInt8) :: List.replicate (i / 8) 0) := by
    have := hB.set 0 (1 : UInt8)
    rw [List.replicate_succ] at this
    exact this
  have hb1 : Below w.heap.size w (w0.setCell ⟨w.heap.size, 0, none⟩ (.int .u8 1)) := hb0.setCell (Nat.le_refl _) _
  clear hB hc0 hf0 hb0
  go_loopw [4] (fun c wr => ∃ (k : Nat) (d : UInt8), k ≤ i % 8 ∧ c = .int .i64 k ∧ Hid (d.toNat = 2 ^ k) ∧ Bt wr w.heap.size (d :: List.replicate (i / 8) 0) ∧ Below w.heap.size w wr) (fun c _ => 8 - (intOf c).toNat)
  case atStart => exact ⟨0, 1, by omega, rfl, Lib.hid rfl, hB1, hb1⟩
  case round =>
    clear hB1 hb1
    obtain ⟨k, d, hk, rfl, HD, hB, hbel⟩ := hrel
    by_cases hlt : k < i % 8
    · have hd64 : d.toNat ≤ 64 := by
        rw [HD.out]
        exact Nat.pow_le_pow_right (n := 2) (i := k) (j := 6) (by decide) (by omega)
      obtain ⟨e2, he2⟩ : ∃ e2, e2 = UInt8.ofNat (d.toNat * 2) := ⟨_, rfl⟩
      have hen : e2.toNat = d.toNat * 2 := by rw [he2, UInt8.toNat_ofNat']; omega
      have hei : (d.toNat : Int) * 2 = (e2.toNat : Int) := by omega
      have HE := Lib.hid (show e2.toNat = 2 ^ (k + 1) by rw [hen, HD.out, Nat.pow_succ])
      have hcz : wr.cell? ⟨w.heap.size, 0, none⟩ = some (.int .u8 (d.toNat : Int)) := by
        have := hB.cell 0 (by simp)
        simpa using this
      have hfr := hB.frozen 0
      have hB2 : Bt (wr.setCell ⟨w.heap.size, 0, none⟩ (.int .u8 (e2.toNat : Int))) w.heap.size (e2 :: List.replicate (i / 8) 0) := hB.set 0 e2
      clear he2 hen
      go_wp2
      go_roundw
      case rel => exact ⟨k + 1, e2, by omega, by go_num, HE, hB2, hbel.setCell (Nat.le_refl _) _⟩
      case measure => simp [intOf]; omega
    · have hd : decide (k < i % 8) = false := by simpa using hlt
      have hke : k = i % 8 := by omega
      have HF := Lib.hid (show (⟨(d :: List.replicate (i / 8) 0).toArray⟩ : ByteArray) = bs (2 ^ i) by
        unfold bs
        rw [HPB.out, ← hke, ← HD.out]
        simp)
      have hcv := hB.string (P := Try.prog) (src := 90) (dst := 22) 0 (i / 8 + 1) (i / 8 + 1) (by simp) Try.underlying90 Try.underlying5 Try.underlying22
      clear hke
      go_wp2
      go_ret
      exact ⟨ret_str HF.out, hbel⟩
end Go.Proofs.Ytkhmihemgbaadaa
