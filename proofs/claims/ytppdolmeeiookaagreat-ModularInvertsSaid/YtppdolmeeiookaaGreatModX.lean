/-
  The examples of the chapter on modular numbers hold: dominolaw03.awake returns true.
-/
import Derived.Test.YtppdolmeeiookaaGreatModR
import Derived.Test.YtppdolmeeiookaaGreatModV
import Derived.Test.YtppdolmeeiookaaGreatModW
import Derived.Test.YtppdolmeeiookaaGreatRefA
namespace Go.Proofs.YtppdolmeeiookaaGreat
open Go.RowKit Num

theorem tiny_top {n : Nat} (h : n < 1000000) : n < Top := Nat.lt_of_lt_of_le h (by unfold Top; decide)
theorem tiny60 {n : Nat} (h : n < 1000000) : n < 256 ^ 60 := Nat.lt_of_lt_of_le h (by decide)

set_option maxHeartbeats 400000 in
set_option maxRecDepth 100000 in
theorem num3 (n : Nat) (hn : n < 18446744073709551616) (w : World) : Calls Tryz.prog 21 #[.int .u64 (n : Int)] w (Made w (.string (bs n))) := by
  have HO := Lib.hid (fun W => rof_any n W hn)
  clear hn
  go_enter Tryz.func21, Tryz.ntmps21
  go_wp2_with fail
  refine (HO.out _).mono ?_
  rintro e w1 ⟨rfl, hb⟩
  go_wp2
  go_ret
  exact ⟨rfl, hb⟩
theorem num3_lit (k : Int) (h0 : 0 ≤ k) (h1 : k < 18446744073709551616) (w : World) : Calls Tryz.prog 21 #[.int .u64 k] w (Made w (.string (bs k.toNat))) := by
  have := num3 k.toNat (by omega) w
  rwa [show ((k.toNat : Nat) : Int) = k from by omega] at this

theorem jac25 : jacL (5 + 1) 1 (2 % 5) 5 = -1 := by
  have t2 : tzN 2 = 1 := by rw [tzN, dif_pos (by decide), tzN, dif_neg (by decide)]
  simp [jacL, t2, bitB]

set_option maxHeartbeats 4000000 in
set_option maxRecDepth 100000 in
theorem awake3 (w : World) : Calls Tryz.prog 7 #[] w (Made w (.bool true)) := by
  have hB : Below w.heap.size w w := Below.refl _ _
  have HN := Lib.hid num3_lit
  have HS : Hid (∀ W, Calls Tryz.prog 10 #[.string (bs 2), .string (bs 5), .string (bs 7)] W (Made W (.tuple #[.string (bs 4), .int .i64 0]))) := Lib.hid (fun W => msub_ok 2 5 7 W (tiny_top (by decide)) (tiny_top (by decide)) (by decide) (tiny_top (by decide)))
  have HE : Hid (∀ W, Calls Tryz.prog 14 #[.string (bs 3), .string (bs 4), .string (bs 7)] W (Made W (.tuple #[.string (bs 4), .int .i64 0]))) := Lib.hid (fun W => mexp_ok 3 4 7 W (tiny_top (by decide)) (tiny_top (by decide)) (by decide) (tiny_top (by decide)))
  have HI := Lib.hid (fun W => minverse_ok 10 7 5 W (tiny60 (by decide)) (tiny60 (by decide)) (by decide) (by decide) (by decide) (by decide))
  have HJ1 : Hid (∀ W, Calls Tryz.prog 22 #[.string (bs 1), .string (bs 4), .string (bs 3), .string (bs 6)] W (Made W (.tuple #[.string (bs 9), .string (bs 12), .int .i64 0]))) := by
    obtain ⟨x, h1, h2, h3, h4⟩ := mjoin_ok 1 4 3 6 (tiny_top (by decide)) (tiny_top (by decide)) (by decide) (tiny60 (by decide)) (by decide) (tiny60 (by decide)) (tiny_top (by decide)) (by decide)
    rw [show 4 * (6 / Nat.gcd 4 6) = 12 from by decide] at h1 h4
    obtain rfl : x = 9 := by omega
    exact Lib.hid h1
  have HJ2 := Lib.hid (fun W => mjoin_no 1 4 2 6 (tiny_top (by decide)) (tiny_top (by decide)) (by decide) (tiny_top (by decide)) (by decide) (tiny_top (by decide)) (by decide) W)
  have HA : Hid (∀ W, Calls Tryz.prog 23 #[.string (bs 2), .string (bs 5)] W (Made W (.tuple #[.int .i64 (-1), .int .i64 0]))) := Lib.hid (fun W => by have := mjacobi_ok 2 5 W (tiny_top (by decide)) (tiny_top (by decide)) (by decide); rwa [jac25] at this)
  have tok0 : True := trivial
  go_enter Tryz.func7, Tryz.ntmps7
  go_wp2_with (first
    | (go_at_call 21; refine (HN.out _ (by decide) (by decide) _).mono ?_; rintro e w' ⟨rfl, hb⟩; replace hB := hB.trans (hb.mono hB.size); clear hb)
    | (go_at_call 10; refine (HS.out _).mono ?_; rintro e w' ⟨rfl, hb⟩; replace hB := hB.trans (hb.mono hB.size); clear hb)
    | (go_at_call 14; refine (HE.out _).mono ?_; rintro e w' ⟨rfl, hb⟩; replace hB := hB.trans (hb.mono hB.size); clear hb)
    | (go_at_call 18; refine (HI.out _).mono ?_; rintro e w' ⟨rfl, hb⟩; replace hB := hB.trans (hb.mono hB.size); clear hb)
    | (go_at_call 22; clear tok0; refine (HJ1.out _).mono ?_; rintro e w' ⟨rfl, hb⟩; replace hB := hB.trans (hb.mono hB.size); clear hb)
    | (go_at_call 22; refine (HJ2.out _).mono ?_; rintro e w' ⟨rfl, hb⟩; replace hB := hB.trans (hb.mono hB.size); clear hb)
    | (go_at_call 23; refine (HA.out _).mono ?_; rintro e w' ⟨rfl, hb⟩; replace hB := hB.trans (hb.mono hB.size); clear hb))
  go_ret
  exact ⟨rfl, hB⟩

end Go.Proofs.YtppdolmeeiookaaGreat
