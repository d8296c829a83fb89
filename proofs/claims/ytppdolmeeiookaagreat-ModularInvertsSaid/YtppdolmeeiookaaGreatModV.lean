/-
  The contract of modular.Jacobi for canonical arguments and an odd modulus.
-/
import Derived.Test.YtppdolmeeiookaaGreatModU
import Derived.Test.YtppdolmeeiookaaGreatModO
namespace Go.Proofs.YtppdolmeeiookaaGreat
open Go.RowKit Num

set_option maxHeartbeats 400000 in
set_option maxRecDepth 100000 in
theorem bit_over (s : ByteArray) (v : Nat) (i : Int) (w : World) (B : ∀ W, Calls Tryz.prog 93 #[.string s] W (Same W (.int .i64 (v : Int)))) (hi : i < 0 ∨ (v : Int) ≤ i) :
    Calls Tryz.prog 53 #[.string s, .int .i64 i] w (Same w (.bool false)) := by
  have HB := Lib.hid B
  clear B
  by_cases h : i < 0
  · go_enter Tryz.func53, Tryz.ntmps53
    go_wp2
    go_ret
    exact ⟨rfl, rfl⟩
  · have h2 : (v : Int) ≤ i := by omega
    have h3 : 0 ≤ i := by omega
    clear hi
    go_enter Tryz.func53, Tryz.ntmps53
    go_wp2_with (go_at_call 93; refine (HB.out _).mono ?_; rintro e w' ⟨rfl, rfl⟩)
    go_ret
    exact ⟨rfl, rfl⟩
theorem bit_all {a : Nat} (ha : a < Top) (i : Nat) (w : World) : Calls Tryz.prog 53 #[.string (bs a), .int .i64 i] w (Same w (.bool (bitB a i))) := by
  by_cases h : i < nb a
  · exact bit_yes ha i h w
  · have : bitB a i = false := by
      rcases hb : bitB a i with _ | _
      · rfl
      · exact absurd (bit_nb hb) h
    rw [this]
    exact bit_over _ (nb a) i w (fun W => bits_ok ha W) (.inr (by omega))

/-- The number of factors two. -/
def tzN (a : Nat) : Nat := if h : a ≠ 0 ∧ a % 2 = 0 then tzN (a / 2) + 1 else 0
termination_by a
decreasing_by omega
theorem tzN_spec (a : Nat) (h : a ≠ 0) : a = 2 ^ tzN a * (a / 2 ^ tzN a) ∧ (a / 2 ^ tzN a) % 2 = 1 := by
  induction a using Nat.strongRecOn with
  | _ a ih =>
    unfold tzN
    by_cases h2 : a % 2 = 0
    · rw [dif_pos ⟨h, h2⟩]
      obtain ⟨e1, e2⟩ := ih (a / 2) (by omega) (by omega)
      rw [Nat.pow_succ, Nat.mul_comm (2 ^ tzN (a / 2)) 2, ← Nat.div_div_eq_div_mul]
      refine ⟨?_, e2⟩
      rw [Nat.mul_assoc, ← e1]
      omega
    · rw [dif_neg (by omega)]
      simp
      omega
theorem tz_lt {a : Nat} (h : a ≠ 0) (ha : a < Top) : tzN a < 1024 := by
  obtain ⟨e1, e2⟩ := tzN_spec a h
  have hb : bitB a (tzN a) = true := by
    have := bit_at (s := tzN a) e2
    rwa [← e1] at this
  have hn := bit_nb hb
  have h1 := nb_bytes (n := a) h (bs_pos h)
  have h2 : (bs a).size ≤ 128 := by rw [bs_le]; exact ha
  have h3 : Lib.bitLen ((bs a)[0]'(bs_pos h)).toNat ≤ 8 := Lib.bitLen_le _ 8 (by omega) (byte_lt _)
  omega
/-- The symbol as the program reckons it: a below n, the sign so far. -/
def jacL : Nat → Int → Nat → Nat → Int
  | 0, _, _, _ => 0
  | f + 1, s, a, n =>
    if a = 0 then (if n = 1 then s else 0)
    else
      let d := a / 2 ^ tzN a
      let s1 := if tzN a % 2 = 1 ∧ bitB n 1 ≠ bitB n 2 then -s else s
      let s2 := if bitB d 1 = true ∧ bitB n 1 = true then -s1 else s1
      jacL f s2 (n % d) d

theorem jac_step {f : Nat} {s : Int} {a n : Nat} (h0 : a ≠ 0) (h : a < f) : ∃ f', f = f' + 1 ∧ jacL f s a n = jacL f' (if bitB (a / 2 ^ tzN a) 1 = true ∧ bitB n 1 = true then -(if tzN a % 2 = 1 ∧ bitB n 1 ≠ bitB n 2 then -s else s) else (if tzN a % 2 = 1 ∧ bitB n 1 ≠ bitB n 2 then -s else s)) (n % (a / 2 ^ tzN a)) (a / 2 ^ tzN a) := by
  obtain ⟨f', rfl⟩ : ∃ f', f = f' + 1 := ⟨f - 1, by omega⟩
  refine ⟨f', rfl, ?_⟩
  rw [jacL, if_neg h0]
theorem jac_end {f : Nat} {s : Int} {n : Nat} (h : 0 < f) : jacL f s 0 n = if n = 1 then s else 0 := by
  obtain ⟨f', rfl⟩ : ∃ f', f = f' + 1 := ⟨f - 1, by omega⟩
  rw [jacL, if_pos rfl]

set_option maxHeartbeats 4000000 in
set_option maxRecDepth 100000 in
theorem mjacobi_ok (a n : Nat) (w : World) (ha : a < Top) (hn : n < Top) (ho : n % 2 = 1) :
    Calls Tryz.prog 23 #[.string (bs a), .string (bs n)] w (Made w (.tuple #[.int .i64 (jacL (n + 1) 1 (a % n) n), .int .i64 0])) := by
  have HC := Lib.hid (fun W g h1 h3 => mcheck1 a n ha (by omega) hn W g h1 h3)
  have HB := Lib.hid (fun (x : Nat) (h : x < Top) (i : Nat) (W : World) => bit_all h i W)
  have HB0 := Lib.hid (fun W => (by have := bit_all hn 0 W; rw [show bitB n 0 = true from by unfold bitB; rw [Nat.pow_zero, Nat.div_one, ho]; rfl] at this; exact this : Calls Tryz.prog 53 #[.string (bs n), .int .i64 0] W (Same W (.bool true))))
  have HR := Lib.hid (fun (x y : Nat) (hx : x < Top) (hy : y < Top) (h0 : y ≠ 0) (W : World) => mremainder_ok x y W hx h0 hy)
  have HT := Lib.hid (fun (x : Nat) (hx : x < Top) (h0 : x ≠ 0) (W : World) => mtwos_ok x (tzN x) (x / 2 ^ tzN x) W hx (tzN_spec x h0).1 (tzN_spec x h0).2)
  have HR0 := Lib.hid (fun W => mremainder_ok a n W ha (by omega) hn)
  have HO := Lib.hid (fun W => (of_lit 1 (by decide) (by decide) W : Calls Tryz.prog 37 #[.int .u64 1] W (Made W (.string (bs 1)))))
  obtain ⟨V, hVal⟩ : ∃ V, V = jacL (n + 1) 1 (a % n) n := ⟨_, rfl⟩
  rw [← hVal]
  have HS := Lib.hid (show a % n < n ∧ n < Top ∧ n % 2 = 1 ∧ a % n < n + 1 ∧ jacL (n + 1) 1 (a % n) n = V from by
    have := Nat.mod_lt a (show n > 0 by omega)
    exact ⟨this, hn, ho, by omega, hVal.symm⟩)
  clear hVal ha hn ho
  go_enter Tryz.func23, Tryz.ntmps23
  go_wp2_with fail
  have K0 := Bk.new w #[.string (bs a)] 22
  refine (HC.out _ _ (K0.cell 0) K0.lt).mono ?_
  rintro e w' ⟨rfl, rfl⟩
  have HV : Below w.heap.size w (w.alloc (.cells #[.string (bs a)] 22)) := (Below.refl _ _).alloc (Nat.le_refl _) _
  clear K0
  go_wp2_with fail
  refine (HB0.out _).mono ?_
  rintro e w1 ⟨rfl, rfl⟩
  go_wp2_with fail
  refine (HR0.out _).mono ?_
  rintro e w2 ⟨rfl, hb⟩
  replace HV := HV.trans (hb.mono HV.size)
  clear hb
  clear HC HB0 HR0
  obtain ⟨a0, ha0⟩ : ∃ x, x = a % n := ⟨_, rfl⟩
  rw [← ha0] at HS ⊢
  clear ha0
  go_wp2
  go_loopw [0, 1, 7] (fun x0 x1 x7 wr => ∃ (a' n' f : Nat) (s : Int), x0 = .string (bs a') ∧ x1 = .string (bs n') ∧ x7 = .int .i64 s ∧ Hid (s = 1 ∨ s = -1) ∧ Hid (a' < n' ∧ n' < Top ∧ n' % 2 = 1 ∧ a' < f ∧ jacL f s a' n' = V) ∧ Below w.heap.size w wr) (fun x0 _ _ _ => strVal x0)
  case atStart => exact ⟨a0, n, n + 1, 1, rfl, rfl, rfl, Lib.hid (.inl rfl), HS, HV⟩
  case round =>
    obtain ⟨a', n', f, s, rfl, rfl, rfl, Hs, Hr, hBel⟩ := hrel
    by_cases h0 : a' = 0
    · subst h0
      have hz : (bs 0).toList.isEmpty = true := by rw [bs_isEmpty]; rfl
      have hJ : V = if n' = 1 then s else 0 := by rw [← Hr.out.2.2.2.2]; exact jac_end (by have := Hr.out.2.2.2.1; omega)
      by_cases h1 : n' = 1
      · have hq : ((bs n').toList == (bs 1).toList) = true := by rw [bs_beq, h1]; rfl
        rw [if_pos h1] at hJ
        subst hJ
        clear h1
        go_wp2_with fail
        refine (HO.out _).mono ?_
        rintro e u1 ⟨rfl, hb⟩
        go_wp2
        go_ret2
        exact ⟨rfl, hBel.trans (hb.mono hBel.size)⟩
      · have hq : ((bs n').toList == (bs 1).toList) = false := by rw [bs_beq]; exact beq_false_of_ne h1
        rw [if_neg h1] at hJ
        subst hJ
        clear h1
        go_wp2_with fail
        refine (HO.out _).mono ?_
        rintro e u1 ⟨rfl, hb⟩
        go_wp2
        go_ret2
        exact ⟨rfl, hBel.trans (hb.mono hBel.size)⟩
    · have hz : (bs a').toList.isEmpty = false := by rw [bs_isEmpty]; exact beq_false_of_ne h0
      obtain ⟨f', hf', hJ⟩ := jac_step (s := s) (n := n') h0 Hr.out.2.2.2.1
      rw [Hr.out.2.2.2.2] at hJ
      have haT : a' < Top := Nat.lt_trans Hr.out.1 Hr.out.2.1
      have HTa := Lib.hid (HT.out a' haT h0)
      have hd0 : a' / 2 ^ tzN a' ≠ 0 := by have := (tzN_spec a' h0).2; omega
      have hdo := (tzN_spec a' h0).2
      have hda : a' / 2 ^ tzN a' ≤ a' := Nat.div_le_self _ _
      have htl : tzN a' < 1024 := tz_lt h0 haT
      obtain ⟨t, ht⟩ : ∃ t, t = tzN a' := ⟨_, rfl⟩
      obtain ⟨d, hd⟩ : ∃ d, d = a' / 2 ^ tzN a' := ⟨_, rfl⟩
      rw [← hd] at HTa hd0 hdo hda hJ
      rw [← ht] at HTa hJ htl
      have HRd := Lib.hid (HR.out n' d Hr.out.2.1 (Nat.lt_of_le_of_lt hda haT) hd0)
      have HBd : Hid (∀ W, Calls Tryz.prog 53 #[.string (bs d), .int .i64 1] W (Same W (.bool (bitB d 1)))) := Lib.hid (fun W => HB.out d (Nat.lt_of_le_of_lt hda haT) 1 W)
      have HB1 : Hid (∀ W, Calls Tryz.prog 53 #[.string (bs n'), .int .i64 1] W (Same W (.bool (bitB n' 1)))) := Lib.hid (fun W => HB.out n' Hr.out.2.1 1 W)
      have HB2 : Hid (∀ W, Calls Tryz.prog 53 #[.string (bs n'), .int .i64 2] W (Same W (.bool (bitB n' 2)))) := Lib.hid (fun W => HB.out n' Hr.out.2.1 2 W)
      have HD := Lib.hid (show n' % d < d ∧ d < Top ∧ d % 2 = 1 ∧ n' % d < f' from by
        have := Nat.mod_lt n' (show d > 0 by omega)
        have := Hr.out.2.2.2.1
        exact ⟨by omega, by omega, hdo, by omega⟩)
      have HM := Lib.hid (show n' % d < a' from by have := HD.out.1; omega)
      generalize bitB d 1 = y1 at *
      generalize bitB n' 1 = x1 at *
      generalize bitB n' 2 = x2 at *
      have HJ := Lib.hid hJ
      clear hJ hd0 hdo hda haT h0 ht hd hf' Hr HB HR HT
      have hti : (t : Int) % 2 = ((t % 2 : Nat) : Int) := by omega
      rcases (show t % 2 = 0 ∨ t % 2 = 1 by omega) with ht2 | ht2 <;> rw [ht2] at hti HJ <;> rcases Hs.out with rfl | rfl <;> cases y1 <;> cases x1 <;> cases x2 <;>
        (go_wp2_with (first
          | (go_at_call 54; refine (HTa.out _).mono ?_; rintro e u1 ⟨rfl, hb1⟩)
          | (go_at_call 26; refine (HRd.out _).mono ?_; rintro e u2 ⟨rfl, hb2⟩)
          | (go_at_call 53; (with_reducible refine (HBd.out _).mono ?_); rintro e u3 ⟨rfl, rfl⟩)
          | (go_at_call 53; (with_reducible refine (HB1.out _).mono ?_); rintro e u3 ⟨rfl, rfl⟩)
          | (go_at_call 53; (with_reducible refine (HB2.out _).mono ?_); rintro e u3 ⟨rfl, rfl⟩))
         go_roundw
         case rel => exact ⟨n' % d, d, f', _, rfl, rfl, rfl, Lib.hid (by simp), Lib.hid ⟨HD.out.1, HD.out.2.1, HD.out.2.2.1, HD.out.2.2.2, by rw [HJ.out]; simp⟩, hBel.trans ((hb1.trans (hb2.mono hb1.size)).mono hBel.size)⟩
         case measure => simp only [strVal_bs]; exact HM.out)

end Go.Proofs.YtppdolmeeiookaaGreat
