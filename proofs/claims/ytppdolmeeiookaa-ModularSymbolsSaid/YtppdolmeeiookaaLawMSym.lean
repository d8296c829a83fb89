/-
  The law of dominolaw03.ModularSymbols.
-/
import Derived.Test.YtppdolmeeiookaaModX
import Derived.Test.YtppdolmeeiookaaRecip
namespace Go.Proofs.Ytppdolmeeiookaa
open Go.RowKit Num QR

theorem gcd_odd {t d n : Nat} (hn : n % 2 = 1) : Nat.gcd (2 ^ t * d) n = Nat.gcd d n := by
  have h2 : Nat.Coprime (2 ^ t) n := Nat.Coprime.pow_left t (by
    have h : Nat.gcd 2 n ∣ 2 := Nat.gcd_dvd_left 2 n
    have hn' : Nat.gcd 2 n ∣ n := Nat.gcd_dvd_right 2 n
    have : Nat.gcd 2 n ≤ 2 := Nat.le_of_dvd (by decide) h
    have hp : 0 < Nat.gcd 2 n := Nat.gcd_pos_of_pos_left n (by decide)
    show Nat.gcd 2 n = 1
    rcases (show Nat.gcd 2 n = 1 ∨ Nat.gcd 2 n = 2 by omega) with e | e
    · exact e
    · rw [e] at hn'
      have := Nat.mod_eq_zero_of_dvd hn'
      omega)
  exact Nat.Coprime.gcd_mul_left_cancel d h2
theorem cop_two {n : Nat} (hn : n % 2 = 1) : Nat.gcd 2 n = 1 := by
  have := gcd_odd (t := 1) (d := 1) hn
  rw [Nat.gcd_one_left] at this
  simpa using this
theorem cop_twos {n : Nat} (hn : n % 2 = 1) (t : Nat) : Nat.gcd (2 ^ t) n = 1 := by
  have := gcd_odd (t := t) (d := 1) hn
  rw [Nat.gcd_one_left] at this
  simpa using this
theorem G_twos {n : Nat} (hn : n % 2 = 1) (t : Nat) : G (2 ^ t) n = if t % 2 = 1 ∧ (n % 8 = 3 ∨ n % 8 = 5) then -1 else 1 := by
  induction t with
  | zero =>
    rw [if_neg (by omega), Nat.pow_zero, G_par]
    have : sumN (mu 1 n) ((n - 1) / 2) = 0 := by
      rw [sumN_congr (g := fun _ => 0), sumN_const, Nat.mul_zero]
      intro x h1 h2
      unfold mu
      rw [Nat.one_mul, Nat.mod_eq_of_lt (by omega), if_neg (by omega)]
    rw [this]
    rfl
  | succ t ih =>
    rw [Nat.pow_succ, G_mul hn (cop_twos hn t) (cop_two hn), ih, G_two hn]
    by_cases h : n % 8 = 3 ∨ n % 8 = 5
    · rcases (show t % 2 = 0 ∨ t % 2 = 1 by omega) with ht | ht
      · rw [if_neg (by omega), if_pos h, if_pos ⟨by omega, h⟩]; rfl
      · rw [if_pos ⟨ht, h⟩, if_pos h, if_neg (by omega)]; rfl
    · rw [if_neg (fun k => h k.2), if_neg h, if_neg (fun k => h k.2)]; rfl
theorem bit1_four {n : Nat} (hn : n % 2 = 1) : bitB n 1 = true ↔ (n - 1) / 2 % 2 = 1 := by
  unfold bitB
  rw [show 2 ^ 1 = 2 from rfl]
  rw [show (n - 1) / 2 = n / 2 by omega]
  simp
theorem bits_eight {n : Nat} (hn : n % 2 = 1) : (bitB n 1 ≠ bitB n 2) ↔ (n % 8 = 3 ∨ n % 8 = 5) := by
  unfold bitB
  rw [show 2 ^ 1 = 2 from rfl, show 2 ^ 2 = 4 from rfl]
  have h8 : n % 8 = 1 ∨ n % 8 = 3 ∨ n % 8 = 5 ∨ n % 8 = 7 := by omega
  rcases h8 with h8 | h8 | h8 | h8
  · rw [show n / 2 % 2 = 0 from by omega, show n / 4 % 2 = 0 from by omega]; simp [h8]
  · rw [show n / 2 % 2 = 1 from by omega, show n / 4 % 2 = 0 from by omega]; simp [h8]
  · rw [show n / 2 % 2 = 0 from by omega, show n / 4 % 2 = 1 from by omega]; simp [h8]
  · rw [show n / 2 % 2 = 1 from by omega, show n / 4 % 2 = 1 from by omega]; simp [h8]
theorem gcd_next (n d : Nat) : Nat.gcd (n % d) d = Nat.gcd d n := by rw [Nat.gcd_rec d n]
theorem J_mod (a n : Nat) : J (a % n) n = J a n := by
  have e : Nat.gcd (a % n) n = Nat.gcd a n := by rw [gcd_next, Nat.gcd_comm]
  by_cases hg : Nat.gcd a n = 1
  · rw [J_pos hg, J_pos (e.trans hg), G_mod]
  · rw [J_neg hg, J_neg (fun h => hg (e.symm.trans h))]

/-- One step of the algorithm. -/
theorem J_step {a n t d : Nat} (hn : n % 2 = 1) (hd : d % 2 = 1) (e : a = 2 ^ t * d) :
    J a n = (if t % 2 = 1 ∧ bitB n 1 ≠ bitB n 2 then -1 else 1) * (if bitB d 1 = true ∧ bitB n 1 = true then -1 else 1) * J (n % d) d := by
  have ea : Nat.gcd a n = Nat.gcd d n := by rw [e, gcd_odd hn]
  by_cases hg : Nat.gcd d n = 1
  · rw [J_pos (ea.trans hg), J_pos ((gcd_next n d).trans hg), e, G_mul hn (cop_twos hn t) hg, G_twos hn, recip' hn hd hg, G_mod]
    simp only [bits_eight hn, bit1_four hn, bit1_four hd]
    unfold par
    rw [Nat.mul_mod]
    generalize (if t % 2 = 1 ∧ (n % 8 = 3 ∨ n % 8 = 5) then (-1 : Int) else 1) = u
    rcases (show (n - 1) / 2 % 2 = 0 ∨ (n - 1) / 2 % 2 = 1 by omega) with h1 | h1 <;> rcases (show (d - 1) / 2 % 2 = 0 ∨ (d - 1) / 2 % 2 = 1 by omega) with h2 | h2 <;> simp [h1, h2, Int.mul_neg, Int.neg_mul]
  · rw [J_neg (fun h => hg (ea.symm.trans h)), J_neg (fun h => hg ((gcd_next n d).symm.trans h)), Int.mul_zero]

theorem jac_J : ∀ (f : Nat) (s : Int) (a n : Nat), n % 2 = 1 → a < n → a < f → jacL f s a n = s * J a n := by
  intro f
  induction f with
  | zero => intro s a n _ _ h; omega
  | succ f ih =>
    intro s a n hn ha hf
    by_cases h0 : a = 0
    · subst h0
      rw [jac_end (by omega)]
      by_cases h1 : n = 1
      · subst h1
        rw [if_pos rfl, J_one, Int.mul_one]
      · rw [if_neg h1, J_neg (by rw [Nat.gcd_zero_left]; exact h1), Int.mul_zero]
    · obtain ⟨e1, e2⟩ := tzN_spec a h0
      have hd0 : a / 2 ^ tzN a ≤ a := Nat.div_le_self _ _
      rw [jacL, if_neg h0]
      generalize hd : a / 2 ^ tzN a = d at *
      have hl := Nat.mod_lt n (show d > 0 by omega)
      dsimp only
      rw [ih _ (n % d) d e2 hl (by omega), J_step hn e2 e1]
      split <;> split <;> simp [Int.neg_mul, Int.mul_neg]

set_option maxHeartbeats 1000000 in
set_option maxRecDepth 100000 in
theorem legendre_ok (a p : Nat) (w : World) (ha : a ≤ 65535) (hp : IsP p) (ho : p % 2 = 1) (hl : p ≤ 3999) :
    Calls Try.prog 13 #[.int .u64 (a : Int), .int .u64 (p : Int)] w (Made w (.int .i64 (J a p))) := by
  have h2 := hp.1
  obtain ⟨am, ham⟩ : ∃ x, x = a % p := ⟨_, rfl⟩
  have eam : (a : Int) % (p : Int) = (am : Int) := by rw [ham, Int.natCast_emod]
  have p0 : (p : Int) ≠ 0 := by omega
  by_cases h0 : am = 0
  · have hJ : J a p = 0 := by
      refine J_neg (fun hg => ?_)
      have : p ∣ a := Nat.dvd_of_mod_eq_zero (by rw [← ham, h0])
      have := Nat.gcd_eq_right this
      omega
    rw [hJ]
    subst h0
    clear hJ ham hp
    go_enter Try.func13, Try.ntmps13
    go_wp2
    go_ret
    exact ⟨rfl, Below.refl _ _⟩
  · have hg : Nat.gcd a p = 1 := hp.gcd (by omega)
    have HJ := Lib.hid (J_pos hg)
    have HP := Lib.hid (And.intro hp ham)
    obtain ⟨V, hV⟩ : ∃ x, x = J a p := ⟨_, rfl⟩
    rw [← hV]
    have HVV := Lib.hid hV
    clear hp ham hg hV
    go_enter Try.func13, Try.ntmps13
    go_wp2
    go_loopw [5] (fun x wr => ∃ k : Nat, 1 ≤ k ∧ k ≤ p ∧ x = .int .u64 k ∧ Hid (∀ y, 1 ≤ y → y < k → y * y % p ≠ a % p) ∧ Below w.heap.size w wr) (fun x _ => p - (intOf x).toNat)
    case atStart => exact ⟨1, Nat.le_refl _, by omega, rfl, Lib.hid (fun y h1 h2 => by omega), Below.refl _ _⟩
    case round =>
      obtain ⟨k, hk1, hk, rfl, HK, HB⟩ := hrel
      by_cases hlt : k < p
      · obtain ⟨kk, hkk⟩ : ∃ x, x = k * k := ⟨_, rfl⟩
        have kl : kk ≤ 3999 * 3999 := by rw [hkk]; exact Nat.mul_le_mul (by omega) (by omega)
        have ekk : (k : Int) * (k : Int) = (kk : Int) := by rw [hkk, Int.natCast_mul]
        obtain ⟨km, hkm⟩ : ∃ x, x = kk % p := ⟨_, rfl⟩
        have ekm : (kk : Int) % (p : Int) = (km : Int) := by rw [hkm, Int.natCast_emod]
        by_cases he : km = am
        · obtain rfl : V = 1 := by
            rw [HVV.out, HJ.out]
            exact G_square HP.out.1 ho (by rw [← HP.out.2]; exact h0) (x := k) (by rw [← hkk, ← hkm, he, HP.out.2])
          subst he
          clear hkk hkm
          go_wp2
          go_quiet (fail)
          go_wp2
          go_ret
          exact ⟨rfl, below_draws HB _⟩
        · have HK2 := Lib.hid (fun (y : Nat) (h1 : 1 ≤ y) (h2 : y < k + 1) => (show y * y % p ≠ a % p from by
            by_cases hyk : y = k
            · subst hyk
              rw [← hkk, ← hkm, ← HP.out.2]
              exact he
            · exact HK.out y h1 (by omega)))
          have heb : ((km : Int) == (am : Int)) = false := by simp; omega
          clear hkk hkm
          go_wp2
          go_quiet (fail)
          go_wp2
          go_roundw
          case rel => exact ⟨k + 1, by omega, by omega, by go_num, HK2, below_draws HB _⟩
          case measure => simp [intOf]; omega
      · obtain rfl : k = p := by omega
        obtain rfl : V = -1 := by
          rw [HVV.out, HJ.out]
          exact G_nonsquare HP.out.1 ho (by rw [← HP.out.2]; exact h0) (fun x h1 h2 => HK.out x h1 (by omega))
        go_wp2
        go_ret
        exact ⟨rfl, HB⟩

theorem J_vals (a n : Nat) : J a n = 0 ∨ J a n = 1 ∨ J a n = -1 := by
  by_cases h : Nat.gcd a n = 1
  · rw [J_pos h]
    exact .inr (G_one_or a n)
  · exact .inl (J_neg h)
theorem isP_of {p r : Nat} (h2 : 2 ≤ p) (hd : p ∣ r) (hl : ∀ d, d ∣ r → d = 1 ∨ p ≤ d) (hr : 1 ≤ r) : IsP p := by
  have _ := hr
  refine ⟨h2, fun d h => ?_⟩
  rcases hl d (Nat.dvd_trans h hd) with h1 | h1
  · exact .inl h1
  · exact .inr (Nat.le_antisymm (Nat.le_of_dvd (by omega) h) h1)
theorem val_mul {c l : Int} (h1 : c = 0 ∨ c = 1 ∨ c = -1) (h2 : l = 0 ∨ l = 1 ∨ l = -1) : c * l = 0 ∨ c * l = 1 ∨ c * l = -1 := by
  rcases h1 with rfl | rfl | rfl <;> rcases h2 with rfl | rfl | rfl <;> simp
theorem next_p {r p : Nat} (hr : r % 2 = 1) (hp : p % 2 = 1) (hn : r % p ≠ 0) (hl : ∀ d, d ∣ r → d = 1 ∨ p ≤ d) : ∀ d, d ∣ r → d = 1 ∨ p + 2 ≤ d := by
  intro d hd
  rcases hl d hd with h | h
  · exact .inl h
  · right
    have h1 : d ≠ p := by
      rintro rfl
      exact hn (Nat.mod_eq_zero_of_dvd hd)
    have h2 : d ≠ p + 1 := by
      rintro rfl
      obtain ⟨k, hk⟩ := hd
      rw [hk, Nat.mul_mod, show (p + 1) % 2 = 0 by omega] at hr
      simp at hr
    omega
theorem odd_quot {r p : Nat} (hr : r % 2 = 1) (hd : p ∣ r) : r / p % 2 = 1 := by
  obtain ⟨k, rfl⟩ := hd
  have : p % 2 = 1 := by
    rcases (show p % 2 = 0 ∨ p % 2 = 1 by omega) with h | h
    · rw [Nat.mul_mod, h] at hr
      simp at hr
    · exact h
  rw [Nat.mul_div_cancel_left k (show 0 < p by omega)]
  rcases (show k % 2 = 0 ∨ k % 2 = 1 by omega) with h | h
  · rw [Nat.mul_mod, h] at hr
    simp at hr
  · exact h

set_option maxHeartbeats 4000000 in
set_option maxRecDepth 100000 in
theorem law_msym (a n : Int) (w : World) (ha : 0 ≤ a ∧ a ≤ 65535) (hn : 0 ≤ n ∧ n ≤ 65535) :
    Calls Try.prog 5 #[.int .u16 a, .int .u16 n] w (Made w (.bool true)) := by
  obtain ⟨A, rfl⟩ := Int.eq_ofNat_of_zero_le ha.1
  obtain ⟨N, rfl⟩ := Int.eq_ofNat_of_zero_le hn.1
  have lA : A ≤ 65535 := by omega
  obtain ⟨q, hq⟩ : ∃ x, x = N % 2000 := ⟨_, rfl⟩
  obtain ⟨m, hm⟩ : ∃ x, x = q * 2 + 1 := ⟨_, rfl⟩
  have e1 : (N : Int) % 2000 = (q : Int) := by omega
  have e2 : (q : Int) * 2 + 1 = (m : Int) := by omega
  have lq : q ≤ 1999 := by omega
  have lm : m ≤ 3999 := by omega
  have m1 : 1 ≤ m := by omega
  have mo : m % 2 = 1 := by omega
  have HNa := Lib.hid (fun W => num3 A (by omega) W)
  have HNm := Lib.hid (fun W => num3 m (by omega) W)
  have HW := Lib.hid awake3
  obtain ⟨V, hV⟩ : ∃ x, x = J A m := ⟨_, rfl⟩
  have HJ : Hid (∀ W, Calls Try.prog 11 #[.string (bs A), .string (bs m)] W (Made W (.tuple #[.int .i64 V, .int .i64 0]))) := Lib.hid (fun W => by
    have := mjacobi_ok A m W (tiny_top (by omega)) (tiny_top (by omega)) mo
    rwa [jac_J (m + 1) 1 (A % m) m mo (Nat.mod_lt _ (by omega)) (by have := Nat.mod_lt A (show m > 0 by omega); omega), Int.one_mul, J_mod, ← hV] at this)
  have HV := Lib.hid hV
  have HM := Lib.hid mo
  clear hV hq hm ha hn mo
  go_enter Try.func5, Try.ntmps5
  go_wp2
  rw [e1]
  clear e1 e2
  go_loopw [6, 7, 8] (fun x6 x7 x8 wr => ∃ (c : Int) (r p : Nat), x6 = .int .i64 c ∧ x7 = .int .u64 r ∧ x8 = .int .u64 p ∧ Hid (c = 0 ∨ c = 1 ∨ c = -1) ∧ Hid (r % 2 = 1 ∧ p % 2 = 1 ∧ V = c * J A r ∧ ∀ d, d ∣ r → d = 1 ∨ p ≤ d) ∧ 1 ≤ r ∧ r ≤ m ∧ 3 ≤ p ∧ p ≤ m + 2 ∧ Below w.heap.size w wr) (fun _ _ x8 _ => m + 2 - (intOf x8).toNat)
  case atStart =>
    refine ⟨1, m, 3, rfl, rfl, rfl, Lib.hid (.inr (.inl rfl)), Lib.hid ⟨HM.out, rfl, by rw [HV.out, Int.one_mul], fun d hd => ?_⟩, m1, Nat.le_refl _, Nat.le_refl _, by omega, Below.refl _ _⟩
    have h1 := Nat.pos_of_dvd_of_pos hd m1
    have h2 : d ≠ 2 := by
      rintro rfl
      have := Nat.mod_eq_zero_of_dvd hd
      have := HM.out
      omega
    omega
  case round =>
    obtain ⟨c, r, p, rfl, rfl, rfl, Hc, HR, r1, rm, p3, pm, HB⟩ := hrel
    by_cases hr1 : r = 1
    · subst hr1
      obtain rfl : c = V := by
        have := HR.out.2.2.1
        rw [J_one, Int.mul_one] at this
        exact this.symm
      go_wp2_with fail
      refine (HNa.out _).mono ?_
      rintro e u1 ⟨rfl, hb⟩
      replace HB := HB.trans (hb.mono HB.size)
      clear hb
      go_wp2_with fail
      refine (HNm.out _).mono ?_
      rintro e u2 ⟨rfl, hb⟩
      replace HB := HB.trans (hb.mono HB.size)
      clear hb
      go_wp2_with fail
      refine (HJ.out _).mono ?_
      rintro e u3 ⟨rfl, hb⟩
      replace HB := HB.trans (hb.mono HB.size)
      clear hb
      go_wp2_with fail
      refine (HW.out _).mono ?_
      rintro e u4 ⟨rfl, hb⟩
      replace HB := HB.trans (hb.mono HB.size)
      clear hb
      go_wp2
      go_ret
      exact ⟨rfl, HB⟩
    · have hpr : p ≤ r := by
        rcases HR.out.2.2.2 r (Nat.dvd_refl r) with h | h
        · exact absurd h hr1
        · exact h
      have HP := Lib.hid HR.out.2.1
      have HR0 := Lib.hid (And.intro HR.out.1 HR.out.2.2)
      clear HR
      go_wp2
      rw [show decide (1 < (r : Int)) = true from by simp; omega]
      go_loopw [6, 7] (fun x6 x7 wr => ∃ (c : Int) (r : Nat), x6 = .int .i64 c ∧ x7 = .int .u64 r ∧ Hid (c = 0 ∨ c = 1 ∨ c = -1) ∧ Hid (r % 2 = 1 ∧ V = c * J A r ∧ ∀ d, d ∣ r → d = 1 ∨ p ≤ d) ∧ 1 ≤ r ∧ r ≤ m ∧ Below w.heap.size w wr) (fun _ x7 _ => (intOf x7).toNat)
      case atStart => exact ⟨c, r, rfl, rfl, Hc, HR0, r1, rm, HB⟩
      case round =>
        obtain ⟨c, r, rfl, rfl, Hc, HR, r1, rm, HB⟩ := hrel
        obtain ⟨rr, hrr⟩ : ∃ x, x = r % p := ⟨_, rfl⟩
        have err : (r : Int) % (p : Int) = (rr : Int) := by rw [hrr, Int.natCast_emod]
        by_cases h0 : rr = 0
        · have hd : p ∣ r := Nat.dvd_of_mod_eq_zero (by rw [← hrr, h0])
          have hP := isP_of (by omega) hd HR.out.2.2 r1
          obtain ⟨r2, hr2⟩ : ∃ x, x = r / p := ⟨_, rfl⟩
          have er2 : (r : Int) / (p : Int) = (r2 : Int) := by rw [hr2, Int.natCast_ediv]
          obtain ⟨lg, hlg⟩ : ∃ x, x = J A p := ⟨_, rfl⟩
          have HL := Lib.hid (fun W => legendre_ok A p W lA hP HP.out (by have := Nat.le_of_dvd r1 hd; omega))
          rw [← hlg] at HL
          obtain ⟨c2, hc2⟩ : ∃ x, x = c * lg := ⟨_, rfl⟩
          have hv2 : c2 = 0 ∨ c2 = 1 ∨ c2 = -1 := by rw [hc2]; exact val_mul Hc.out (by rw [hlg]; exact J_vals A p)
          have ec2 : c * lg = c2 := hc2.symm
          have wc2 : IntKind.i64.wrap c2 = c2 := by rw [IntKind.wrap_i64]; omega
          have hrp : r = p * r2 := by rw [hr2, Nat.mul_div_cancel' hd]
          have hodd : r2 % 2 = 1 := by rw [hr2]; exact odd_quot HR.out.1 hd
          have HR2 := Lib.hid (show r2 % 2 = 1 ∧ V = c2 * J A r2 ∧ ∀ d, d ∣ r2 → d = 1 ∨ p ≤ d from
            ⟨hodd, by rw [HR.out.2.1, hrp, J_right HP.out hodd, hc2, hlg, Int.mul_assoc], fun d h => HR.out.2.2 d (Nat.dvd_trans h ⟨p, by rw [hrp, Nat.mul_comm]⟩)⟩)
          have r21 : 1 ≤ r2 := by omega
          have r2l : r2 < r := by rw [hr2]; exact Nat.div_lt_self r1 (by omega)
          have HC2 := Lib.hid hv2
          have c2l : -1 ≤ c2 ∧ c2 ≤ 1 := by omega
          subst h0
          clear hv2 hlg hr2 hd hP hrr hc2 hrp hodd
          go_wp2_with (go_at_call 13; refine (HL.out _).mono ?_; rintro e u1 ⟨rfl, hb⟩; replace HB := HB.trans (hb.mono HB.size); clear hb)
          go_roundw
          case rel => exact ⟨c2, r2, by go_num, rfl, HC2, HR2, r21, by omega, HB⟩
          case measure => simp [intOf]; omega
        · have HN2 := Lib.hid (next_p HR.out.1 HP.out (by rw [← hrr]; exact h0) HR.out.2.2)
          have HR3 := Lib.hid (show r % 2 = 1 ∧ (p + 2) % 2 = 1 ∧ V = c * J A r ∧ ∀ d, d ∣ r → d = 1 ∨ p + 2 ≤ d from ⟨HR.out.1, by have := HP.out; omega, HR.out.2.1, HN2.out⟩)
          clear hrr
          go_wp2
          go_roundw
          case rel => exact ⟨c, r, p + 2, rfl, rfl, by go_num, Hc, HR3, r1, rm, by omega, by omega, HB⟩
          case measure => simp [intOf]; omega
end Go.Proofs.Ytppdolmeeiookaa
