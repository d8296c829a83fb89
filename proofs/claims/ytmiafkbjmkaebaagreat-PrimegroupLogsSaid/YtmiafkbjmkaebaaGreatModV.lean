/-
  The contract of modular.Jacobi for canonical arguments and an odd modulus.
-/
import Derived.Test.YtmiafkbjmkaebaaGreatModU
import Derived.Test.YtmiafkbjmkaebaaGreatModO
namespace Go.Proofs.YtmiafkbjmkaebaaGreat
open Go.RowKit Num

set_option maxHeartbeats 400000 in
set_option maxRecDepth 100000 in
theorem bit_over (s : ByteArray) (v : Nat) (i : Int) (w : World) (B : ∀ W, Calls Tryz.prog 112 #[.string s] W (Same W (.int .i64 (v : Int)))) (hi : i < 0 ∨ (v : Int) ≤ i) :
    Calls Tryz.prog 113 #[.string s, .int .i64 i] w (Same w (.bool false)) := by
  have HB := Lib.hid B
  clear B
  by_cases h : i < 0
  · go_enter Tryz.func113, Tryz.ntmps113
    go_wp2
    go_ret
    exact ⟨rfl, rfl⟩
  · have h2 : (v : Int) ≤ i := by omega
    have h3 : 0 ≤ i := by omega
    clear hi
    go_enter Tryz.func113, Tryz.ntmps113
    go_wp2_with (go_at_call 112; refine (HB.out _).mono ?_; rintro e w' ⟨rfl, rfl⟩)
    go_ret
    exact ⟨rfl, rfl⟩
theorem bit_all {a : Nat} (ha : a < Top) (i : Nat) (w : World) : Calls Tryz.prog 113 #[.string (bs a), .int .i64 i] w (Same w (.bool (bitB a i))) := by
  by_cases h : i < nb a
  · exact bit_yes ha i h w
  · have : bitB a i = false := by
      rcases hb : bitB a i with _ | _
      · rfl
      · exact absurd (bit_nb hb) h
    rw [this]
    exact bit_over _ (nb a) i w (fun W => bits_ok ha W) (.inr (by omega))

/-- The number of factors two. -/
def tzN (a : Nat) : Nat := if h : a ≠ 0 ∧ a % 2 = 0 then tzN (a / 2) + 1 else 0
termination_by a
decreasing_by omega
theorem tzN_spec (a : Nat) (h : a ≠ 0) : a = 2 ^ tzN a * (a / 2 ^ tzN a) ∧ (a / 2 ^ tzN a) % 2 = 1 := by
  induction a using Nat.strongRecOn with
  | _ a ih =>
    unfold tzN
    by_cases h2 : a % 2 = 0
    · rw [dif_pos ⟨h, h2⟩]
      obtain ⟨e1, e2⟩ := ih (a / 2) (by omega) (by omega)
      rw [Nat.pow_succ, Nat.mul_comm (2 ^ tzN (a / 2)) 2, ← Nat.div_div_eq_div_mul]
      refine ⟨?_, e2⟩
      rw [Nat.mul_assoc, ← e1]
      omega
    · rw [dif_neg (by omega)]
      simp
      omega
theorem tz_lt {a : Nat} (h : a ≠ 0) (ha : a < Top) : tzN a < 1024 := by
  obtain ⟨e1, e2⟩ := tzN_spec a h
  have hb : bitB a (tzN a) = true := by
    have := bit_at (s := tzN a) e2
    rwa [← e1] at this
  have hn := bit_nb hb
  have h1 := nb_bytes (n := a) h (bs_pos h)
  have h2 : (bs a).size ≤ 128 := by rw [bs_le]; exact ha
  have h3 : Lib.bitLen ((bs a)[0]'(bs_pos h)).toNat ≤ 8 := Lib.bitLen_le _ 8 (by omega) (byte_lt _)
  omega
/-- The symbol as the program reckons it: a below n, the sign so far. -/
def jacL : Nat → Int → Nat → Nat → Int
  | 0, _, _, _ => 0
  | f + 1, s, a, n =>
    if a = 0 then (if n = 1 then s else 0)
    else
      let d := a / 2 ^ tzN a
      let s1 := if tzN a % 2 = 1 ∧ bitB n 1 ≠ bitB n 2 then -s else s
      let s2 := if bitB d 1 = true ∧ bitB n 1 = true then -s1 else s1
      jacL f s2 (n % d) d

theorem jac_step {f : Nat} {s : Int} {a n : Nat} (h0 : a ≠ 0) (h : a < f) : ∃ f', f = f' + 1 ∧ jacL f s a n = jacL f' (if bitB (a / 2 ^ tzN a) 1 = true ∧ bitB n 1 = true then -(if tzN a % 2 = 1 ∧ bitB n 1 ≠ bitB n 2 then -s else s) else (if tzN a % 2 = 1 ∧ bitB n 1 ≠ bitB n 2 then -s else s)) (n % (a / 2 ^ tzN a)) (a / 2 ^ tzN a) := by
  obtain ⟨f', rfl⟩ : ∃ f', f = f' + 1 := ⟨f - 1, by omega⟩
  refine ⟨f', rfl, ?_⟩
  rw [jacL, if_neg h0]
theorem jac_end {f : Nat} {s : Int} {n : Nat} (h : 0 < f) : jacL f s 0 n = if n = 1 then s else 0 := by
  obtain ⟨f', rfl⟩ : ∃ f', f = f' + 1 := ⟨f - 1, by omega⟩
  rw [jacL, if_pos rfl]

end Go.Proofs.YtmiafkbjmkaebaaGreat
