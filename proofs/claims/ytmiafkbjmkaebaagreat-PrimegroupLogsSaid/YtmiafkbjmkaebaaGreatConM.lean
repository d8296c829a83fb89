/-
  Contracts of Add, Sub and Cmp for all strings, of natural and of the reference. Contracts of Mul and DivMod for all strings, of natural and of the reference.
-/
import Derived.Test.YtmiafkbjmkaebaaGreatNatA
import Derived.Test.YtmiafkbjmkaebaaGreatRefA
import Derived.Test.YtmiafkbjmkaebaaGreatAwake
import Derived.Test.YtmiafkbjmkaebaaGreatRefG
namespace Go.Proofs.YtmiafkbjmkaebaaGreat
open Go.RowKit Num

set_option maxHeartbeats 400000 in
theorem add_no (s t : ByteArray) (w : World) (hs : s.size ≤ 9223372036854775807) (ht : t.size ≤ 9223372036854775807) (h : validB s = false ∨ validB t = false) :
    Calls Tryz.prog 144 #[.string s, .string t] w (Same w (.tuple #[.string (bs 0), .int .i64 3])) := by
  have HZ := Lib.hid bs_zero
  by_cases hv : validB s = true
  · have h2 : validB t = false := by rcases h with h | h; (rw [h] at hv; cases hv); exact h
    have V1 := Lib.hid (fun W => valid_any s W hs)
    rw [hv] at V1
    have V2 := Lib.hid (fun W => valid_no h2 W ht)
    clear hv h h2
    go_enter Tryz.func144, Tryz.ntmps144
    go_wp2_with fail
    refine (V1.out _).mono ?_
    rintro e w' ⟨rfl, rfl⟩
    go_wp2_with fail
    refine (V2.out _).mono ?_
    rintro e w' ⟨rfl, rfl⟩
    go_wp2
    go_ret2
    exact ⟨by rw [HZ.out]; rfl, rfl⟩
  · have hv : validB s = false := by simpa using hv
    have V1 := Lib.hid (fun W => valid_no hv W hs)
    clear hv h
    go_enter Tryz.func144, Tryz.ntmps144
    go_wp2_with fail
    refine (V1.out _).mono ?_
    rintro e w' ⟨rfl, rfl⟩
    go_wp2
    go_ret2
    exact ⟨by rw [HZ.out]; rfl, rfl⟩

set_option maxHeartbeats 400000 in
theorem sub_no (s t : ByteArray) (w : World) (hs : s.size ≤ 9223372036854775807) (ht : t.size ≤ 9223372036854775807) (h : validB s = false ∨ validB t = false) :
    Calls Tryz.prog 49 #[.string s, .string t] w (Same w (.tuple #[.string (bs 0), .int .i64 3])) := by
  have HZ := Lib.hid bs_zero
  by_cases hv : validB s = true
  · have h2 : validB t = false := by rcases h with h | h; (rw [h] at hv; cases hv); exact h
    have V1 := Lib.hid (fun W => valid_any s W hs)
    rw [hv] at V1
    have V2 := Lib.hid (fun W => valid_no h2 W ht)
    clear hv h h2
    go_enter Tryz.func49, Tryz.ntmps49
    go_wp2_with fail
    refine (V1.out _).mono ?_
    rintro e w' ⟨rfl, rfl⟩
    go_wp2_with fail
    refine (V2.out _).mono ?_
    rintro e w' ⟨rfl, rfl⟩
    go_wp2
    go_ret2
    exact ⟨by rw [HZ.out]; rfl, rfl⟩
  · have hv : validB s = false := by simpa using hv
    have V1 := Lib.hid (fun W => valid_no hv W hs)
    clear hv h
    go_enter Tryz.func49, Tryz.ntmps49
    go_wp2_with fail
    refine (V1.out _).mono ?_
    rintro e w' ⟨rfl, rfl⟩
    go_wp2
    go_ret2
    exact ⟨by rw [HZ.out]; rfl, rfl⟩

set_option maxHeartbeats 400000 in
theorem cmp_no (s t : ByteArray) (w : World) (hs : s.size ≤ 9223372036854775807) (ht : t.size ≤ 9223372036854775807) (h : validB s = false ∨ validB t = false) :
    Calls Tryz.prog 32 #[.string s, .string t] w (Same w (.int .i64 0)) := by
  have HZ := Lib.hid bs_zero
  by_cases hv : validB s = true
  · have h2 : validB t = false := by rcases h with h | h; (rw [h] at hv; cases hv); exact h
    have V1 := Lib.hid (fun W => valid_any s W hs)
    rw [hv] at V1
    have V2 := Lib.hid (fun W => valid_no h2 W ht)
    clear hv h h2
    go_enter Tryz.func32, Tryz.ntmps32
    go_wp2_with fail
    refine (V1.out _).mono ?_
    rintro e w' ⟨rfl, rfl⟩
    go_wp2_with fail
    refine (V2.out _).mono ?_
    rintro e w' ⟨rfl, rfl⟩
    go_wp2
    go_ret
    exact ⟨by rfl, rfl⟩
  · have hv : validB s = false := by simpa using hv
    have V1 := Lib.hid (fun W => valid_no hv W hs)
    clear hv h
    go_enter Tryz.func32, Tryz.ntmps32
    go_wp2_with fail
    refine (V1.out _).mono ?_
    rintro e w' ⟨rfl, rfl⟩
    go_wp2
    go_ret
    exact ⟨by rfl, rfl⟩

set_option maxHeartbeats 400000 in
theorem radd_no (s t : ByteArray) (w : World) (hs : s.size ≤ 9223372036854775807) (ht : t.size ≤ 9223372036854775807) (h : validB s = false ∨ validB t = false) :
    Calls Tryz.prog 98 #[.string s, .string t] w (Same w (.tuple #[.string (bs 0), .int .i64 3])) := by
  have HZ := Lib.hid bs_zero
  by_cases hv : validB s = true
  · have h2 : validB t = false := by rcases h with h | h; (rw [h] at hv; cases hv); exact h
    have V1 := Lib.hid (fun W => rvalid_any s W hs)
    rw [hv] at V1
    have V2 := Lib.hid (fun W => rvalid_no h2 W ht)
    clear hv h h2
    go_enter Tryz.func98, Tryz.ntmps98
    go_wp2_with fail
    refine (V1.out _).mono ?_
    rintro e w' ⟨rfl, rfl⟩
    go_wp2_with fail
    refine (V2.out _).mono ?_
    rintro e w' ⟨rfl, rfl⟩
    go_wp2
    go_ret2
    exact ⟨by rw [HZ.out]; rfl, rfl⟩
  · have hv : validB s = false := by simpa using hv
    have V1 := Lib.hid (fun W => rvalid_no hv W hs)
    clear hv h
    go_enter Tryz.func98, Tryz.ntmps98
    go_wp2_with fail
    refine (V1.out _).mono ?_
    rintro e w' ⟨rfl, rfl⟩
    go_wp2
    go_ret2
    exact ⟨by rw [HZ.out]; rfl, rfl⟩

set_option maxHeartbeats 400000 in
theorem rsub_no (s t : ByteArray) (w : World) (hs : s.size ≤ 9223372036854775807) (ht : t.size ≤ 9223372036854775807) (h : validB s = false ∨ validB t = false) :
    Calls Tryz.prog 99 #[.string s, .string t] w (Same w (.tuple #[.string (bs 0), .int .i64 3])) := by
  have HZ := Lib.hid bs_zero
  by_cases hv : validB s = true
  · have h2 : validB t = false := by rcases h with h | h; (rw [h] at hv; cases hv); exact h
    have V1 := Lib.hid (fun W => rvalid_any s W hs)
    rw [hv] at V1
    have V2 := Lib.hid (fun W => rvalid_no h2 W ht)
    clear hv h h2
    go_enter Tryz.func99, Tryz.ntmps99
    go_wp2_with fail
    refine (V1.out _).mono ?_
    rintro e w' ⟨rfl, rfl⟩
    go_wp2_with fail
    refine (V2.out _).mono ?_
    rintro e w' ⟨rfl, rfl⟩
    go_wp2
    go_ret2
    exact ⟨by rw [HZ.out]; rfl, rfl⟩
  · have hv : validB s = false := by simpa using hv
    have V1 := Lib.hid (fun W => rvalid_no hv W hs)
    clear hv h
    go_enter Tryz.func99, Tryz.ntmps99
    go_wp2_with fail
    refine (V1.out _).mono ?_
    rintro e w' ⟨rfl, rfl⟩
    go_wp2
    go_ret2
    exact ⟨by rw [HZ.out]; rfl, rfl⟩

theorem size_bound' {b x k : Nat} (hb : (bs b).size ≤ k) (hx : x ≤ 2 * b + 1) : (bs x).size ≤ k + 1 := by
  rw [bs_le] at hb ⊢
  rw [Nat.pow_succ]
  have := Nat.pow_pos (a := 256) (n := k) (by decide)
  omega
theorem same_made {w : World} {v : Value} {e : Ending} {w' : World} (h : Same w v e w') : Made w v e w' := by
  obtain ⟨rfl, rfl⟩ := h
  exact ⟨rfl, Below.refl _ _⟩
theorem rfit_ok {n : Nat} (h : n < Top) (w : World) : Calls Tryz.prog 118 #[.string (bs n)] w (Same w (.tuple #[.string (bs n), .int .i64 0])) := by
  have h1 := bs_small h
  clear h
  go_enter Tryz.func118, Tryz.ntmps118
  go_wp2
  go_ret2
  exact ⟨rfl, rfl⟩
theorem rfit_long {n : Nat} (h : Top ≤ n) (h2 : (bs n).size ≤ 100000) (w : World) : Calls Tryz.prog 118 #[.string (bs n)] w (Same w (.tuple #[.string (bs 0), .int .i64 5])) := by
  have h1 : 128 < (bs n).size := by
    apply Decidable.byContradiction
    intro hc
    have := bs_le.1 (show (bs n).size ≤ 128 by omega)
    unfold Top at h
    omega
  have HZ := Lib.hid bs_zero
  clear h
  go_enter Tryz.func118, Tryz.ntmps118
  go_wp2
  go_ret2
  exact ⟨by rw [HZ.out]; rfl, rfl⟩

set_option maxHeartbeats 400000 in
theorem radd_ok {a b : Nat} (ha : a < Top) (hb : b < Top) (hv : a + b < Top) (w : World) :
    Calls Tryz.prog 98 #[.string (bs a), .string (bs b)] w (Made w (.tuple #[.string (bs (a + b)), .int .i64 0])) := by
  have h1 := bs_small ha
  have h2 := bs_small hb
  have HA := Lib.hid ha
  have HB := Lib.hid hb
  have HZ := Lib.hid bs_zero
  have HV := Lib.hid hv
  clear hv
  clear ha hb
  go_enter Tryz.func98, Tryz.ntmps98
  go_wp2_with fail
  refine (rvalid_yes HA.out _).mono ?_
  rintro e w' ⟨rfl, rfl⟩
  go_wp2_with fail
  refine (rvalid_yes HB.out _).mono ?_
  rintro e w' ⟨rfl, rfl⟩
  go_wp2_with fail
  refine (plus_any a b _ (by omega) (by omega)).mono ?_
  rintro e w1 ⟨rfl, hb1⟩
  go_wp2_with fail
  refine (rfit_ok HV.out _).mono ?_
  rintro e w' ⟨rfl, rfl⟩
  go_wp2
  go_ret2
  exact ⟨rfl, hb1⟩

set_option maxHeartbeats 400000 in
theorem radd_long {a b : Nat} (ha : a < Top) (hb : b < Top) (hv : Top ≤ a + b) (w : World) :
    Calls Tryz.prog 98 #[.string (bs a), .string (bs b)] w (Made w (.tuple #[.string (bs 0), .int .i64 5])) := by
  have h1 := bs_small ha
  have h2 := bs_small hb
  have HA := Lib.hid ha
  have HB := Lib.hid hb
  have HZ := Lib.hid bs_zero
  have HV := Lib.hid hv
  have hsz : (bs (a + b)).size ≤ 100000 := by
    rcases Nat.le_total a b with g | g
    · have := size_bound' (k := 128) h2 (show a + b ≤ 2 * b + 1 by omega); omega
    · have := size_bound' (k := 128) h1 (show a + b ≤ 2 * a + 1 by omega); omega
  clear hv
  clear ha hb
  go_enter Tryz.func98, Tryz.ntmps98
  go_wp2_with fail
  refine (rvalid_yes HA.out _).mono ?_
  rintro e w' ⟨rfl, rfl⟩
  go_wp2_with fail
  refine (rvalid_yes HB.out _).mono ?_
  rintro e w' ⟨rfl, rfl⟩
  go_wp2_with fail
  refine (plus_any a b _ (by omega) (by omega)).mono ?_
  rintro e w1 ⟨rfl, hb1⟩
  go_wp2_with fail
  refine (rfit_long HV.out hsz _).mono ?_
  rintro e w' ⟨rfl, rfl⟩
  go_wp2
  go_ret2
  exact ⟨rfl, hb1⟩

set_option maxHeartbeats 400000 in
theorem rsub_ok {a b : Nat} (ha : a < Top) (hb : b < Top) (hv : b ≤ a) (w : World) :
    Calls Tryz.prog 99 #[.string (bs a), .string (bs b)] w (Made w (.tuple #[.string (bs (a - b)), .int .i64 0])) := by
  have h1 := bs_small ha
  have h2 := bs_small hb
  have HA := Lib.hid ha
  have HB := Lib.hid hb
  have HZ := Lib.hid bs_zero
  have HV := Lib.hid hv
  have hc : 0 ≤ cmpN a b := by unfold cmpN; rw [if_neg (by omega)]; split <;> omega
  clear hv
  clear ha hb
  go_enter Tryz.func99, Tryz.ntmps99
  go_wp2_with fail
  refine (rvalid_yes HA.out _).mono ?_
  rintro e w' ⟨rfl, rfl⟩
  go_wp2_with fail
  refine (rvalid_yes HB.out _).mono ?_
  rintro e w' ⟨rfl, rfl⟩
  go_wp2_with fail
  refine (order_any a b _ (by omega)).mono ?_
  rintro e w1 ⟨rfl, hb1⟩
  go_wp2_with fail
  refine (minus_any a b _ (by omega) (by omega) HV.out).mono ?_
  rintro e w2 ⟨rfl, hb2⟩
  go_wp2
  go_ret2
  exact ⟨rfl, hb1.trans (hb2.mono hb1.size)⟩

set_option maxHeartbeats 400000 in
theorem rsub_range {a b : Nat} (ha : a < Top) (hb : b < Top) (hv : a < b) (w : World) :
    Calls Tryz.prog 99 #[.string (bs a), .string (bs b)] w (Made w (.tuple #[.string (bs 0), .int .i64 2])) := by
  have h1 := bs_small ha
  have h2 := bs_small hb
  have HA := Lib.hid ha
  have HB := Lib.hid hb
  have HZ := Lib.hid bs_zero
  have hc : cmpN a b < 0 := by unfold cmpN; rw [if_pos hv]; omega
  clear hv
  clear ha hb
  go_enter Tryz.func99, Tryz.ntmps99
  go_wp2_with fail
  refine (rvalid_yes HA.out _).mono ?_
  rintro e w' ⟨rfl, rfl⟩
  go_wp2_with fail
  refine (rvalid_yes HB.out _).mono ?_
  rintro e w' ⟨rfl, rfl⟩
  go_wp2_with fail
  refine (order_any a b _ (by omega)).mono ?_
  rintro e w1 ⟨rfl, hb1⟩
  go_wp2
  go_ret2
  exact ⟨by rw [HZ.out]; rfl, hb1⟩
end Go.Proofs.YtmiafkbjmkaebaaGreat

namespace Go.Proofs.YtmiafkbjmkaebaaGreat
open Go.RowKit Num

set_option maxHeartbeats 400000 in
theorem mul_no (s t : ByteArray) (w : World) (hs : s.size ≤ 9223372036854775807) (ht : t.size ≤ 9223372036854775807) (h : validB s = false ∨ validB t = false) :
    Calls Tryz.prog 141 #[.string s, .string t] w (Same w (.tuple #[.string (bs 0), .int .i64 3])) := by
  have HZ := Lib.hid bs_zero
  by_cases hv : validB s = true
  · have h2 : validB t = false := by rcases h with h | h; (rw [h] at hv; cases hv); exact h
    have V1 := Lib.hid (fun W => valid_any s W hs)
    rw [hv] at V1
    have V2 := Lib.hid (fun W => valid_no h2 W ht)
    clear hv h h2
    go_enter Tryz.func141, Tryz.ntmps141
    go_wp2_with fail
    refine (V1.out _).mono ?_
    rintro e w' ⟨rfl, rfl⟩
    go_wp2_with fail
    refine (V2.out _).mono ?_
    rintro e w' ⟨rfl, rfl⟩
    go_wp2
    go_ret2
    exact ⟨by rw [HZ.out]; rfl, rfl⟩
  · have hv : validB s = false := by simpa using hv
    have V1 := Lib.hid (fun W => valid_no hv W hs)
    clear hv h
    go_enter Tryz.func141, Tryz.ntmps141
    go_wp2_with fail
    refine (V1.out _).mono ?_
    rintro e w' ⟨rfl, rfl⟩
    go_wp2
    go_ret2
    exact ⟨by rw [HZ.out]; rfl, rfl⟩

set_option maxHeartbeats 400000 in
theorem divmod_no (s t : ByteArray) (w : World) (hs : s.size ≤ 9223372036854775807) (ht : t.size ≤ 9223372036854775807) (h : validB s = false ∨ validB t = false) :
    Calls Tryz.prog 50 #[.string s, .string t] w (Same w (.tuple #[.string (bs 0), .string (bs 0), .int .i64 3])) := by
  have HZ := Lib.hid bs_zero
  by_cases hv : validB s = true
  · have h2 : validB t = false := by rcases h with h | h; (rw [h] at hv; cases hv); exact h
    have V1 := Lib.hid (fun W => valid_any s W hs)
    rw [hv] at V1
    have V2 := Lib.hid (fun W => valid_no h2 W ht)
    clear hv h h2
    go_enter Tryz.func50, Tryz.ntmps50
    go_wp2_with fail
    refine (V1.out _).mono ?_
    rintro e w' ⟨rfl, rfl⟩
    go_wp2_with fail
    refine (V2.out _).mono ?_
    rintro e w' ⟨rfl, rfl⟩
    go_wp2
    go_ret3
    exact ⟨by rw [HZ.out]; rfl, rfl⟩
  · have hv : validB s = false := by simpa using hv
    have V1 := Lib.hid (fun W => valid_no hv W hs)
    clear hv h
    go_enter Tryz.func50, Tryz.ntmps50
    go_wp2_with fail
    refine (V1.out _).mono ?_
    rintro e w' ⟨rfl, rfl⟩
    go_wp2
    go_ret3
    exact ⟨by rw [HZ.out]; rfl, rfl⟩

set_option maxHeartbeats 400000 in
theorem rmul_no (s t : ByteArray) (w : World) (hs : s.size ≤ 9223372036854775807) (ht : t.size ≤ 9223372036854775807) (h : validB s = false ∨ validB t = false) :
    Calls Tryz.prog 95 #[.string s, .string t] w (Same w (.tuple #[.string (bs 0), .int .i64 3])) := by
  have HZ := Lib.hid bs_zero
  by_cases hv : validB s = true
  · have h2 : validB t = false := by rcases h with h | h; (rw [h] at hv; cases hv); exact h
    have V1 := Lib.hid (fun W => rvalid_any s W hs)
    rw [hv] at V1
    have V2 := Lib.hid (fun W => rvalid_no h2 W ht)
    clear hv h h2
    go_enter Tryz.func95, Tryz.ntmps95
    go_wp2_with fail
    refine (V1.out _).mono ?_
    rintro e w' ⟨rfl, rfl⟩
    go_wp2_with fail
    refine (V2.out _).mono ?_
    rintro e w' ⟨rfl, rfl⟩
    go_wp2
    go_ret2
    exact ⟨by rw [HZ.out]; rfl, rfl⟩
  · have hv : validB s = false := by simpa using hv
    have V1 := Lib.hid (fun W => rvalid_no hv W hs)
    clear hv h
    go_enter Tryz.func95, Tryz.ntmps95
    go_wp2_with fail
    refine (V1.out _).mono ?_
    rintro e w' ⟨rfl, rfl⟩
    go_wp2
    go_ret2
    exact ⟨by rw [HZ.out]; rfl, rfl⟩

set_option maxHeartbeats 400000 in
theorem rdivmod_no (s t : ByteArray) (w : World) (hs : s.size ≤ 9223372036854775807) (ht : t.size ≤ 9223372036854775807) (h : validB s = false ∨ validB t = false) :
    Calls Tryz.prog 97 #[.string s, .string t] w (Same w (.tuple #[.string (bs 0), .string (bs 0), .int .i64 3])) := by
  have HZ := Lib.hid bs_zero
  by_cases hv : validB s = true
  · have h2 : validB t = false := by rcases h with h | h; (rw [h] at hv; cases hv); exact h
    have V1 := Lib.hid (fun W => rvalid_any s W hs)
    rw [hv] at V1
    have V2 := Lib.hid (fun W => rvalid_no h2 W ht)
    clear hv h h2
    go_enter Tryz.func97, Tryz.ntmps97
    go_wp2_with fail
    refine (V1.out _).mono ?_
    rintro e w' ⟨rfl, rfl⟩
    go_wp2_with fail
    refine (V2.out _).mono ?_
    rintro e w' ⟨rfl, rfl⟩
    go_wp2
    go_ret3
    exact ⟨by rw [HZ.out]; rfl, rfl⟩
  · have hv : validB s = false := by simpa using hv
    have V1 := Lib.hid (fun W => rvalid_no hv W hs)
    clear hv h
    go_enter Tryz.func97, Tryz.ntmps97
    go_wp2_with fail
    refine (V1.out _).mono ?_
    rintro e w' ⟨rfl, rfl⟩
    go_wp2
    go_ret3
    exact ⟨by rw [HZ.out]; rfl, rfl⟩

theorem rover_any (a b : Nat) (w : World) (h1 : (bs a).size ≤ 2000) (h2 : (bs b).size ≤ 2000) (h0 : b ≠ 0) :
    Calls Tryz.prog 54 #[.string (bs a), .string (bs b)] w (Made w (.tuple #[.string (bs (a / b)), .string (bs (a % b))])) := by
  by_cases h : (bs a).size ≤ 8 ∧ (bs b).size ≤ 8
  · exact over_small a b w h.1 h.2 h0
  · exact over_long a b w (by omega) h1 h2 (Nat.pos_of_ne_zero h0)
theorem size_mul {a b : Nat} (ha : a < Top) (hb : b < Top) : (bs (a * b)).size ≤ 256 := by
  rw [bs_le]
  unfold Top at ha hb
  rw [show 256 = 128 + 128 from rfl, Nat.pow_add]
  rcases Nat.eq_zero_or_pos b with h | h
  · subst h; rw [Nat.mul_zero]; exact Nat.mul_pos (Nat.pow_pos (by decide)) (Nat.pow_pos (by decide))
  · exact Nat.mul_lt_mul'' ha hb

set_option maxHeartbeats 400000 in
theorem rmul_ok {a b : Nat} (ha : a < Top) (hb : b < Top) (hv : a * b < Top) (w : World) :
    Calls Tryz.prog 95 #[.string (bs a), .string (bs b)] w (Made w (.tuple #[.string (bs (a * b)), .int .i64 0])) := by
  have h1 := bs_small ha
  have h2 := bs_small hb
  have HA := Lib.hid ha
  have HB := Lib.hid hb
  have HV := Lib.hid hv
  have HSZ := Lib.hid (size_mul ha hb)
  clear hv ha hb
  go_enter Tryz.func95, Tryz.ntmps95
  go_wp2_with fail
  refine (rvalid_yes HA.out _).mono ?_
  rintro e w' ⟨rfl, rfl⟩
  go_wp2_with fail
  refine (rvalid_yes HB.out _).mono ?_
  rintro e w' ⟨rfl, rfl⟩
  go_wp2_with fail
  refine (rtimes_any a b _ (by omega) (by omega)).mono ?_
  rintro e w1 ⟨rfl, hb1⟩
  go_wp2_with fail
  refine (rfit_ok HV.out _).mono ?_
  rintro e w' ⟨rfl, rfl⟩
  go_wp2
  go_ret2
  exact ⟨rfl, hb1⟩

set_option maxHeartbeats 400000 in
theorem rmul_long {a b : Nat} (ha : a < Top) (hb : b < Top) (hv : Top ≤ a * b) (w : World) :
    Calls Tryz.prog 95 #[.string (bs a), .string (bs b)] w (Made w (.tuple #[.string (bs 0), .int .i64 5])) := by
  have h1 := bs_small ha
  have h2 := bs_small hb
  have HA := Lib.hid ha
  have HB := Lib.hid hb
  have HV := Lib.hid hv
  have HSZ := Lib.hid (size_mul ha hb)
  clear hv ha hb
  go_enter Tryz.func95, Tryz.ntmps95
  go_wp2_with fail
  refine (rvalid_yes HA.out _).mono ?_
  rintro e w' ⟨rfl, rfl⟩
  go_wp2_with fail
  refine (rvalid_yes HB.out _).mono ?_
  rintro e w' ⟨rfl, rfl⟩
  go_wp2_with fail
  refine (rtimes_any a b _ (by omega) (by omega)).mono ?_
  rintro e w1 ⟨rfl, hb1⟩
  go_wp2_with fail
  refine (rfit_long HV.out (by have := HSZ.out; omega) _).mono ?_
  rintro e w' ⟨rfl, rfl⟩
  go_wp2
  go_ret2
  exact ⟨rfl, hb1⟩

set_option maxHeartbeats 400000 in
theorem rdivmod_ok {a b : Nat} (ha : a < Top) (hb : b < Top) (h0 : b ≠ 0) (w : World) :
    Calls Tryz.prog 97 #[.string (bs a), .string (bs b)] w (Made w (.tuple #[.string (bs (a / b)), .string (bs (a % b)), .int .i64 0])) := by
  have h1 := bs_small ha
  have h2 := bs_small hb
  have HA := Lib.hid ha
  have HB := Lib.hid hb
  have H0 := Lib.hid h0
  have he : (bs b).toList.isEmpty = false := by rw [bs_isEmpty]; simpa using h0
  clear ha hb h0
  go_enter Tryz.func97, Tryz.ntmps97
  go_wp2_with fail
  refine (rvalid_yes HA.out _).mono ?_
  rintro e w' ⟨rfl, rfl⟩
  go_wp2_with fail
  refine (rvalid_yes HB.out _).mono ?_
  rintro e w' ⟨rfl, rfl⟩
  go_wp2_with fail
  refine (rover_any a b _ (by omega) (by omega) H0.out).mono ?_
  rintro e w1 ⟨rfl, hb1⟩
  go_wp2
  go_ret3
  exact ⟨rfl, hb1⟩

set_option maxHeartbeats 400000 in
theorem rdivmod_zero {a : Nat} (ha : a < Top) (w : World) :
    Calls Tryz.prog 97 #[.string (bs a), .string (bs 0)] w (Same w (.tuple #[.string (bs 0), .string (bs 0), .int .i64 11])) := by
  have HA := Lib.hid ha
  have he : (bs 0).toList.isEmpty = true := by rw [bs_isEmpty]; rfl
  have HZ := Lib.hid bs_zero
  clear ha
  go_enter Tryz.func97, Tryz.ntmps97
  go_wp2_with fail
  refine (rvalid_yes HA.out _).mono ?_
  rintro e w' ⟨rfl, rfl⟩
  go_wp2_with fail
  refine (rvalid_yes (show 0 < Top by unfold Top; decide) _).mono ?_
  rintro e w' ⟨rfl, rfl⟩
  go_wp2
  go_ret3
  exact ⟨by rw [HZ.out]; rfl, rfl⟩
theorem bs_mono {x y k : Nat} (h : x ≤ y) (h2 : (bs y).size ≤ k) : (bs x).size ≤ k := bs_le.2 (Nat.lt_of_le_of_lt h (bs_le.1 h2))
end Go.Proofs.YtmiafkbjmkaebaaGreat
