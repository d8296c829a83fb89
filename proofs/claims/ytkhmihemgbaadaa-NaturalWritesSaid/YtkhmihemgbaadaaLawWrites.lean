/-
  dominolaw01.NaturalWrites returns true for every input: for all numbers of 64 bits Of returns a canonical string whose number is the argument, and Cmp is the order of the numbers. No condition.
-/
import Derived.Test.YtkhmihemgbaadaaAwake
namespace Go.Proofs.Ytkhmihemgbaadaa
open Go.RowKit Num

set_option maxHeartbeats 2000000 in
set_option maxRecDepth 100000 in
theorem law_writes (n m : Nat) (hn : n < 18446744073709551616) (hm : m < 18446744073709551616) (w : World) :
    Calls Try.prog 4 #[.int .u64 n, .int .u64 m] w (Made w (.bool true)) := by
  have hB : Below w.heap.size w w := Below.refl _ _
  have HN := Lib.hid hn
  have HM := Lib.hid hm
  have TN := Lib.hid (top_big hn)
  have TM := Lib.hid (top_big hm)
  have q : ((bs n).toList == (bs m).toList) = (n == m) := bs_beq n m
  clear hn hm
  rcases Nat.lt_trichotomy n m with g | g | g
  · have hc : cmpN n m = -1 := by unfold cmpN; rw [if_pos g]
    have e1 : (n == m) = false := by rw [beq_eq_false_iff_ne]; omega
    have e2 : ((n : Int) == (m : Int)) = false := by rw [beq_eq_false_iff_ne]; omega
    have d1 : decide (n < m) = true := by simpa using g
    have d2 : decide (m < n) = false := by simp; omega
    rw [e1] at q
    clear g e1
    go_enter Try.func4, Try.ntmps4
    go_wp2_with fail
    refine (of_any n HN.out _).mono ?_
    rintro e w' ⟨rfl, hb⟩
    replace hB := hB.trans (hb.mono hB.size); clear hb
    go_wp2_with fail
    refine (of_any m HM.out _).mono ?_
    rintro e w' ⟨rfl, hb⟩
    replace hB := hB.trans (hb.mono hB.size); clear hb
    go_wp2_with (first
      | (go_at_call 23; refine (small_yes n _ HN.out).mono ?_; rintro e w' ⟨rfl, rfl⟩)
      | (go_at_call 22; refine (awake_any _).mono ?_; rintro e w' ⟨rfl, hb⟩; replace hB := hB.trans (hb.mono hB.size); clear hb)
      | (go_at_call 25; refine (valid_yes TN.out _).mono ?_; rintro e w' ⟨rfl, rfl⟩)
      | (go_at_call 32; refine (cmp_yes TN.out TM.out _).mono ?_; rintro e w' ⟨rfl, rfl⟩))
    go_ret
    exact ⟨rfl, hB⟩
  · subst g
    have hc : cmpN n n = 0 := by unfold cmpN; rw [if_neg (by omega), if_neg (by omega)]
    clear q
    go_enter Try.func4, Try.ntmps4
    go_wp2_with fail
    refine (of_any n HN.out _).mono ?_
    rintro e w' ⟨rfl, hb⟩
    replace hB := hB.trans (hb.mono hB.size); clear hb
    go_wp2_with fail
    refine (of_any n HM.out _).mono ?_
    rintro e w' ⟨rfl, hb⟩
    replace hB := hB.trans (hb.mono hB.size); clear hb
    go_wp2_with (first
      | (go_at_call 23; refine (small_yes n _ HN.out).mono ?_; rintro e w' ⟨rfl, rfl⟩)
      | (go_at_call 22; refine (awake_any _).mono ?_; rintro e w' ⟨rfl, hb⟩; replace hB := hB.trans (hb.mono hB.size); clear hb)
      | (go_at_call 25; refine (valid_yes TN.out _).mono ?_; rintro e w' ⟨rfl, rfl⟩)
      | (go_at_call 32; refine (cmp_yes TN.out TM.out _).mono ?_; rintro e w' ⟨rfl, rfl⟩))
    go_ret
    exact ⟨rfl, hB⟩
  · have hc : cmpN n m = 1 := by unfold cmpN; rw [if_neg (by omega), if_pos g]
    have e1 : (n == m) = false := by rw [beq_eq_false_iff_ne]; omega
    have e2 : ((n : Int) == (m : Int)) = false := by rw [beq_eq_false_iff_ne]; omega
    have d1 : decide (m < n) = true := by simpa using g
    have d2 : decide (n < m) = false := by simp; omega
    rw [e1] at q
    clear g e1
    go_enter Try.func4, Try.ntmps4
    go_wp2_with fail
    refine (of_any n HN.out _).mono ?_
    rintro e w' ⟨rfl, hb⟩
    replace hB := hB.trans (hb.mono hB.size); clear hb
    go_wp2_with fail
    refine (of_any m HM.out _).mono ?_
    rintro e w' ⟨rfl, hb⟩
    replace hB := hB.trans (hb.mono hB.size); clear hb
    go_wp2_with (first
      | (go_at_call 23; refine (small_yes n _ HN.out).mono ?_; rintro e w' ⟨rfl, rfl⟩)
      | (go_at_call 22; refine (awake_any _).mono ?_; rintro e w' ⟨rfl, hb⟩; replace hB := hB.trans (hb.mono hB.size); clear hb)
      | (go_at_call 25; refine (valid_yes TN.out _).mono ?_; rintro e w' ⟨rfl, rfl⟩)
      | (go_at_call 32; refine (cmp_yes TN.out TM.out _).mono ?_; rintro e w' ⟨rfl, rfl⟩))
    go_ret
    exact ⟨rfl, hB⟩

end Go.Proofs.Ytkhmihemgbaadaa
