/-
  Contracts of Add, Sub and Cmp for all strings, of natural and of the reference. Contracts of Mul and DivMod for all strings, of natural and of the reference.
-/
import Derived.Test.YtmiafkbjmkaebaaNatA
import Derived.Test.YtmiafkbjmkaebaaRefA
import Derived.Test.YtmiafkbjmkaebaaAwake
import Derived.Test.YtmiafkbjmkaebaaRefG
namespace Go.Proofs.Ytmiafkbjmkaebaa
open Go.RowKit Num

set_option maxHeartbeats 400000 in
theorem add_no (s t : ByteArray) (w : World) (hs : s.size ≤ 9223372036854775807) (ht : t.size ≤ 9223372036854775807) (h : validB s = false ∨ validB t = false) :
    Calls Try.prog 27 #[.string s, .string t] w (Same w (.tuple #[.string (bs 0), .int .i64 3])) := by
  have HZ := Lib.hid bs_zero
  by_cases hv : validB s = true
  · have h2 : validB t = false := by rcases h with h | h; (rw [h] at hv; cases hv); exact h
    have V1 := Lib.hid (fun W => valid_any s W hs)
    rw [hv] at V1
    have V2 := Lib.hid (fun W => valid_no h2 W ht)
    clear hv h h2
    go_enter Try.func27, Try.ntmps27
    go_wp2_with fail
    refine (V1.out _).mono ?_
    rintro e w' ⟨rfl, rfl⟩
    go_wp2_with fail
    refine (V2.out _).mono ?_
    rintro e w' ⟨rfl, rfl⟩
    go_wp2
    go_ret2
    exact ⟨by rw [HZ.out]; rfl, rfl⟩
  · have hv : validB s = false := by simpa using hv
    have V1 := Lib.hid (fun W => valid_no hv W hs)
    clear hv h
    go_enter Try.func27, Try.ntmps27
    go_wp2_with fail
    refine (V1.out _).mono ?_
    rintro e w' ⟨rfl, rfl⟩
    go_wp2
    go_ret2
    exact ⟨by rw [HZ.out]; rfl, rfl⟩

set_option maxHeartbeats 400000 in
theorem sub_no (s t : ByteArray) (w : World) (hs : s.size ≤ 9223372036854775807) (ht : t.size ≤ 9223372036854775807) (h : validB s = false ∨ validB t = false) :
    Calls Try.prog 29 #[.string s, .string t] w (Same w (.tuple #[.string (bs 0), .int .i64 3])) := by
  have HZ := Lib.hid bs_zero
  by_cases hv : validB s = true
  · have h2 : validB t = false := by rcases h with h | h; (rw [h] at hv; cases hv); exact h
    have V1 := Lib.hid (fun W => valid_any s W hs)
    rw [hv] at V1
    have V2 := Lib.hid (fun W => valid_no h2 W ht)
    clear hv h h2
    go_enter Try.func29, Try.ntmps29
    go_wp2_with fail
    refine (V1.out _).mono ?_
    rintro e w' ⟨rfl, rfl⟩
    go_wp2_with fail
    refine (V2.out _).mono ?_
    rintro e w' ⟨rfl, rfl⟩
    go_wp2
    go_ret2
    exact ⟨by rw [HZ.out]; rfl, rfl⟩
  · have hv : validB s = false := by simpa using hv
    have V1 := Lib.hid (fun W => valid_no hv W hs)
    clear hv h
    go_enter Try.func29, Try.ntmps29
    go_wp2_with fail
    refine (V1.out _).mono ?_
    rintro e w' ⟨rfl, rfl⟩
    go_wp2
    go_ret2
    exact ⟨by rw [HZ.out]; rfl, rfl⟩

set_option maxHeartbeats 400000 in
theorem cmp_no (s t : ByteArray) (w : World) (hs : s.size ≤ 9223372036854775807) (ht : t.size ≤ 9223372036854775807) (h : validB s = false ∨ validB t = false) :
    Calls Try.prog 20 #[.string s, .string t] w (Same w (.int .i64 0)) := by
  have HZ := Lib.hid bs_zero
  by_cases hv : validB s = true
  · have h2 : validB t = false := by rcases h with h | h; (rw [h] at hv; cases hv); exact h
    have V1 := Lib.hid (fun W => valid_any s W hs)
    rw [hv] at V1
    have V2 := Lib.hid (fun W => valid_no h2 W ht)
    clear hv h h2
    go_enter Try.func20, Try.ntmps20
    go_wp2_with fail
    refine (V1.out _).mono ?_
    rintro e w' ⟨rfl, rfl⟩
    go_wp2_with fail
    refine (V2.out _).mono ?_
    rintro e w' ⟨rfl, rfl⟩
    go_wp2
    go_ret
    exact ⟨by rfl, rfl⟩
  · have hv : validB s = false := by simpa using hv
    have V1 := Lib.hid (fun W => valid_no hv W hs)
    clear hv h
    go_enter Try.func20, Try.ntmps20
    go_wp2_with fail
    refine (V1.out _).mono ?_
    rintro e w' ⟨rfl, rfl⟩
    go_wp2
    go_ret
    exact ⟨by rfl, rfl⟩

theorem size_bound' {b x k : Nat} (hb : (bs b).size ≤ k) (hx : x ≤ 2 * b + 1) : (bs x).size ≤ k + 1 := by
  rw [bs_le] at hb ⊢
  rw [Nat.pow_succ]
  have := Nat.pow_pos (a := 256) (n := k) (by decide)
  omega
theorem same_made {w : World} {v : Value} {e : Ending} {w' : World} (h : Same w v e w') : Made w v e w' := by
  obtain ⟨rfl, rfl⟩ := h
  exact ⟨rfl, Below.refl _ _⟩
end Go.Proofs.Ytmiafkbjmkaebaa

namespace Go.Proofs.Ytmiafkbjmkaebaa
open Go.RowKit Num

set_option maxHeartbeats 400000 in
theorem mul_no (s t : ByteArray) (w : World) (hs : s.size ≤ 9223372036854775807) (ht : t.size ≤ 9223372036854775807) (h : validB s = false ∨ validB t = false) :
    Calls Try.prog 92 #[.string s, .string t] w (Same w (.tuple #[.string (bs 0), .int .i64 3])) := by
  have HZ := Lib.hid bs_zero
  by_cases hv : validB s = true
  · have h2 : validB t = false := by rcases h with h | h; (rw [h] at hv; cases hv); exact h
    have V1 := Lib.hid (fun W => valid_any s W hs)
    rw [hv] at V1
    have V2 := Lib.hid (fun W => valid_no h2 W ht)
    clear hv h h2
    go_enter Try.func92, Try.ntmps92
    go_wp2_with fail
    refine (V1.out _).mono ?_
    rintro e w' ⟨rfl, rfl⟩
    go_wp2_with fail
    refine (V2.out _).mono ?_
    rintro e w' ⟨rfl, rfl⟩
    go_wp2
    go_ret2
    exact ⟨by rw [HZ.out]; rfl, rfl⟩
  · have hv : validB s = false := by simpa using hv
    have V1 := Lib.hid (fun W => valid_no hv W hs)
    clear hv h
    go_enter Try.func92, Try.ntmps92
    go_wp2_with fail
    refine (V1.out _).mono ?_
    rintro e w' ⟨rfl, rfl⟩
    go_wp2
    go_ret2
    exact ⟨by rw [HZ.out]; rfl, rfl⟩

set_option maxHeartbeats 400000 in
theorem divmod_no (s t : ByteArray) (w : World) (hs : s.size ≤ 9223372036854775807) (ht : t.size ≤ 9223372036854775807) (h : validB s = false ∨ validB t = false) :
    Calls Try.prog 47 #[.string s, .string t] w (Same w (.tuple #[.string (bs 0), .string (bs 0), .int .i64 3])) := by
  have HZ := Lib.hid bs_zero
  by_cases hv : validB s = true
  · have h2 : validB t = false := by rcases h with h | h; (rw [h] at hv; cases hv); exact h
    have V1 := Lib.hid (fun W => valid_any s W hs)
    rw [hv] at V1
    have V2 := Lib.hid (fun W => valid_no h2 W ht)
    clear hv h h2
    go_enter Try.func47, Try.ntmps47
    go_wp2_with fail
    refine (V1.out _).mono ?_
    rintro e w' ⟨rfl, rfl⟩
    go_wp2_with fail
    refine (V2.out _).mono ?_
    rintro e w' ⟨rfl, rfl⟩
    go_wp2
    go_ret3
    exact ⟨by rw [HZ.out]; rfl, rfl⟩
  · have hv : validB s = false := by simpa using hv
    have V1 := Lib.hid (fun W => valid_no hv W hs)
    clear hv h
    go_enter Try.func47, Try.ntmps47
    go_wp2_with fail
    refine (V1.out _).mono ?_
    rintro e w' ⟨rfl, rfl⟩
    go_wp2
    go_ret3
    exact ⟨by rw [HZ.out]; rfl, rfl⟩

theorem size_mul {a b : Nat} (ha : a < Top) (hb : b < Top) : (bs (a * b)).size ≤ 256 := by
  rw [bs_le]
  unfold Top at ha hb
  rw [show 256 = 128 + 128 from rfl, Nat.pow_add]
  rcases Nat.eq_zero_or_pos b with h | h
  · subst h; rw [Nat.mul_zero]; exact Nat.mul_pos (Nat.pow_pos (by decide)) (Nat.pow_pos (by decide))
  · exact Nat.mul_lt_mul'' ha hb

theorem bs_mono {x y k : Nat} (h : x ≤ y) (h2 : (bs y).size ≤ k) : (bs x).size ≤ k := bs_le.2 (Nat.lt_of_le_of_lt h (bs_le.1 h2))
end Go.Proofs.Ytmiafkbjmkaebaa
