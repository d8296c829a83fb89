/-
  The law of dominolaw03.ModularRemainders.
-/
import Derived.Test.YtppdolmeeiookaaModX
import Derived.Test.YtppdolmeeiookaaDivide
namespace Go.Proofs.Ytppdolmeeiookaa
open Go.RowKit Num

theorem lcm_eq (m n : Nat) : m * (n / Nat.gcd m n) = Nat.lcm m n := by
  rw [Nat.lcm, Nat.mul_div_assoc m (Nat.gcd_dvd_right m n)]

theorem lcm_stop {m n k : Nat} (pm : 0 < m) (hk : 1 ≤ k) (hq : k ≤ n / Nat.gcd m n) (h : m * k % n = 0) : m * k = m * (n / Nat.gcd m n) := by
  have h1 : Nat.lcm m n ∣ m * k := Nat.lcm_dvd (Nat.dvd_mul_right m k) (Nat.dvd_of_mod_eq_zero h)
  rw [← lcm_eq] at h1
  have h2 := Nat.le_of_dvd (Nat.mul_pos pm hk) h1
  exact Nat.le_antisymm (Nat.mul_le_mul_left m hq) h2

theorem lcm_go {m n k : Nat} (hq : k ≤ n / Nat.gcd m n) (h : m * k % n ≠ 0) : k + 1 ≤ n / Nat.gcd m n := by
  rcases Nat.lt_or_ge k (n / Nat.gcd m n) with h1 | h1
  · exact h1
  · exfalso
    apply h
    rw [Nat.le_antisymm hq h1, lcm_eq]
    exact Nat.mod_eq_zero_of_dvd (Nat.dvd_lcm_right m n)

theorem mod_eq_dvd {a b m : Nat} (h : a % m = b % m) : m ∣ b - a := by
  exact Nat.dvd_of_mod_eq_zero (Nat.sub_mod_eq_zero_of_mod_eq h.symm)

theorem rem_unique {A B m n x f : Nat} (hx1 : x % m = A % m) (hx2 : x % n = B % n) (hx : x < m * (n / Nat.gcd m n)) (hf1 : f % m = A % m) (hf2 : f % n = B % n) (hK : ∀ k, k < f → ¬ (k % m = A % m ∧ k % n = B % n)) : x = f := by
  rcases Nat.lt_trichotomy x f with h | h | h
  · exact absurd ⟨hx1, hx2⟩ (hK x h)
  · exact h
  · exfalso
    have h1 : Nat.lcm m n ∣ x - f := Nat.lcm_dvd (mod_eq_dvd (hf1.trans hx1.symm)) (mod_eq_dvd (hf2.trans hx2.symm))
    rw [← lcm_eq] at h1
    have := Nat.le_of_dvd (by omega) h1
    omega

/-- What Join answers for small numbers. -/
theorem join_both (A m B n : Nat) (hA : A ≤ 65535) (hB : B ≤ 65535) (pm : 0 < m) (pn : 0 < n) (lm : m ≤ 48) (ln : n ≤ 48) : ∃ (x l : Nat) (e : Int),
    (∀ W, Calls Try.prog 8 #[.string (bs A), .string (bs m), .string (bs B), .string (bs n)] W (Made W (.tuple #[.string (bs x), .string (bs l), .int .i64 e]))) ∧
    ((e = 0 ∧ x % m = A % m ∧ x % n = B % n ∧ x < l ∧ l = m * (n / Nat.gcd m n)) ∨ (e = 9 ∧ x = 0 ∧ l = 0 ∧ A % Nat.gcd m n ≠ B % Nat.gcd m n)) := by
  have hdiv : n / Nat.gcd m n ≤ n := Nat.div_le_self _ _
  have hmul : m * (n / Nat.gcd m n) ≤ 48 * 48 := Nat.mul_le_mul lm (by omega)
  by_cases h : A % Nat.gcd m n = B % Nat.gcd m n
  · obtain ⟨x, h1, h2, h3, h4⟩ := mjoin_ok A m B n (tiny_top (by omega)) (tiny_top (by omega)) (by omega) (tiny60 (by omega)) (by omega) (tiny60 (by omega)) (tiny_top (by omega)) h
    exact ⟨x, _, 0, h1, .inl ⟨rfl, h2, h3, h4, rfl⟩⟩
  · exact ⟨0, 0, 9, fun W => mjoin_no A m B n (tiny_top (by omega)) (tiny_top (by omega)) (by omega) (tiny_top (by omega)) (by omega) (tiny_top (by omega)) h W, .inr ⟨rfl, rfl, rfl, h⟩⟩

set_option maxHeartbeats 2000000 in
set_option maxRecDepth 100000 in
theorem law_rem (a b t : Int) (w : World) (ha : 0 ≤ a ∧ a ≤ 65535) (hb : 0 ≤ b ∧ b ≤ 65535) (ht : 0 ≤ t ∧ t ≤ 65535) :
    Calls Try.prog 3 #[.int .u16 a, .int .u16 b, .int .u16 t] w (Made w (.bool true)) := by
  obtain ⟨A, rfl⟩ := Int.eq_ofNat_of_zero_le ha.1
  obtain ⟨B, rfl⟩ := Int.eq_ofNat_of_zero_le hb.1
  obtain ⟨T, rfl⟩ := Int.eq_ofNat_of_zero_le ht.1
  obtain ⟨t1, ht1⟩ : ∃ x, x = T % 48 := ⟨_, rfl⟩
  obtain ⟨t2, ht2⟩ : ∃ x, x = T / 64 := ⟨_, rfl⟩
  obtain ⟨t3, ht3⟩ : ∃ x, x = t2 % 48 := ⟨_, rfl⟩
  obtain ⟨m, hm⟩ : ∃ x, x = t1 + 1 := ⟨_, rfl⟩
  obtain ⟨n, hn⟩ : ∃ x, x = t3 + 1 := ⟨_, rfl⟩
  obtain ⟨mn, hmn⟩ : ∃ x, x = m * n := ⟨_, rfl⟩
  have e1 : (T : Int) % 48 = (t1 : Int) := by omega
  have e2 : (T : Int) / 64 = (t2 : Int) := by omega
  have e3 : (t2 : Int) % 48 = (t3 : Int) := by omega
  have e4 : (t1 : Int) + 1 = (m : Int) := by omega
  have e5 : (t3 : Int) + 1 = (n : Int) := by omega
  have l1 : t1 ≤ 47 := by omega
  have l3 : t3 ≤ 47 := by omega
  have l2 : t2 ≤ 65535 := by omega
  have lm : m ≤ 48 := by omega
  have ln : n ≤ 48 := by omega
  have pm : 0 < m := by omega
  have pn : 0 < n := by omega
  have lA : A ≤ 65535 := by omega
  have lB : B ≤ 65535 := by omega
  have lT : T ≤ 65535 := by omega
  clear ha hb ht ht1 ht2 ht3 hm hn
  have HN := Lib.hid (fun (k : Nat) (h : k < 18446744073709551616) W => num3 k h W)
  have HNa := Lib.hid (fun W => HN.out A (by omega) W)
  have HNm := Lib.hid (fun W => HN.out m (by omega) W)
  have HNb := Lib.hid (fun W => HN.out B (by omega) W)
  have HNn := Lib.hid (fun W => HN.out n (by omega) W)
  obtain ⟨xv, lv, ev, hJ, hF⟩ := join_both A m B n lA lB pm pn lm ln
  have HJ := Lib.hid hJ
  have HF := Lib.hid hF
  clear hJ hF
  have HL := Lib.hid hmn
  clear hmn
  go_enter Try.func3, Try.ntmps3
  go_wp2_with fail
  refine (HNa.out _).mono ?_
  rintro e w1 ⟨rfl, hb1⟩
  have HB := hb1
  clear hb1
  go_wp2_with fail
  refine (HNm.out _).mono ?_
  rintro e w2 ⟨rfl, hb⟩
  replace HB := HB.trans (hb.mono HB.size)
  clear hb
  go_wp2_with fail
  refine (HNb.out _).mono ?_
  rintro e w3 ⟨rfl, hb⟩
  replace HB := HB.trans (hb.mono HB.size)
  clear hb
  go_wp2_with fail
  refine (HNn.out _).mono ?_
  rintro e w4 ⟨rfl, hb⟩
  replace HB := HB.trans (hb.mono HB.size)
  clear hb
  go_wp2_with fail
  refine (HJ.out _).mono ?_
  rintro e w5 ⟨rfl, hb⟩
  replace HB := HB.trans (hb.mono HB.size)
  clear hb
  have em : (m : Int) * (n : Int) = (mn : Int) := by rw [HL.out, Int.natCast_mul]
  have lmn : mn ≤ 2304 := by
    rw [HL.out]
    exact Nat.mul_le_mul lm ln
  have pmn : 0 < mn := by
    rw [HL.out]
    exact Nat.mul_pos pm pn
  obtain ⟨am, ham⟩ : ∃ x, x = A % m := ⟨_, rfl⟩
  obtain ⟨bn, hbn⟩ : ∃ x, x = B % n := ⟨_, rfl⟩
  have eam : (A : Int) % (m : Int) = (am : Int) := by rw [ham, Int.natCast_emod]
  have ebn : (B : Int) % (n : Int) = (bn : Int) := by rw [hbn, Int.natCast_emod]
  have HAB := Lib.hid (And.intro ham hbn)
  have HAW := Lib.hid awake3
  clear ham hbn e1 e2 e3 e4 e5 l1 l2 l3 HNa HNb HNm HNn
  go_wp2
  go_loopw [12] (fun x wr => ∃ f : Nat, f ≤ mn ∧ x = .int .u64 f ∧ Hid (∀ k, k < f → ¬ (k % m = A % m ∧ k % n = B % n)) ∧ Below w.heap.size w wr) (fun x _ => mn - (intOf x).toNat)
  case atStart => exact ⟨0, Nat.zero_le _, rfl, Lib.hid (fun k hk => absurd hk (Nat.not_lt_zero k)), HB⟩
  case round =>
    obtain ⟨f, hf, rfl, HK, HB⟩ := hrel
    obtain ⟨fm, hfm⟩ : ∃ x, x = f % m := ⟨_, rfl⟩
    obtain ⟨fn, hfn⟩ : ∃ x, x = f % n := ⟨_, rfl⟩
    have efm : (f : Int) % (m : Int) = (fm : Int) := by rw [hfm, Int.natCast_emod]
    have efn : (f : Int) % (n : Int) = (fn : Int) := by rw [hfn, Int.natCast_emod]
    have HFM := Lib.hid (And.intro hfm hfn)
    clear hfm hfn
    by_cases hlt : f < mn
    · by_cases h1 : fm = am
      · by_cases h2 : fn = bn
        · have hf1 : f % m = A % m := by rw [← HFM.out.1, h1, HAB.out.1]
          have hf2 : f % n = B % n := by rw [← HFM.out.2, h2, HAB.out.2]
          obtain ⟨q, hq⟩ : ∃ q, q = n / Nat.gcd m n := ⟨_, rfl⟩
          obtain ⟨rfl, rfl, rfl⟩ : ev = 0 ∧ xv = f ∧ lv = m * q := by
            rcases HF.out with ⟨e0, x1, x2, x3, x4⟩ | ⟨_, _, _, x4⟩
            · rw [hq]
              rw [x4] at x3
              exact ⟨e0, rem_unique x1 x2 x3 hf1 hf2 HK.out, x4⟩
            · exfalso
              apply x4
              rw [← Nat.mod_mod_of_dvd A (Nat.gcd_dvd_left m n), ← Nat.mod_mod_of_dvd B (Nat.gcd_dvd_right m n), ← hf1, ← hf2, Nat.mod_mod_of_dvd f (Nat.gcd_dvd_left m n), Nat.mod_mod_of_dvd f (Nat.gcd_dvd_right m n)]
          subst h1 h2
          have hql : m * q ≤ 2304 := by rw [hq]; exact Nat.le_trans (Nat.mul_le_mul_left m (Nat.div_le_self _ _)) (by rw [← HL.out]; exact lmn)
          have hq1 : 1 ≤ q := by rw [hq]; exact Nat.div_pos (Nat.le_of_dvd pn (Nat.gcd_dvd_right m n)) (Nat.gcd_pos_of_pos_left n pm)
          have HQ := Lib.hid hq
          obtain ⟨l1, hl1⟩ : ∃ x, x = m * q := ⟨_, rfl⟩
          rw [← hl1] at hql ⊢
          have HL1 := Lib.hid hl1
          have HNl := Lib.hid (fun W => HN.out l1 (by omega) W)
          have HNf := Lib.hid (fun W => HN.out xv (by omega) W)
          clear hq hl1
          go_wp2
          go_quiet (fail)
          go_wp2
          go_loopw [13] (fun x wr => ∃ c : Nat, x = .int .u64 c ∧ c ≤ 2304 ∧ Hid (∃ k, 1 ≤ k ∧ k ≤ q ∧ c = m * k) ∧ Below w.heap.size w wr) (fun x _ => 2304 - (intOf x).toNat)
          case atStart => exact ⟨m, rfl, by omega, Lib.hid ⟨1, Nat.le_refl _, hq1, by rw [Nat.mul_one]⟩, below_draws HB _⟩
          case round =>
            obtain ⟨c, rfl, hc, HC, HB⟩ := hrel
            obtain ⟨cr, hcr⟩ : ∃ x, x = c % n := ⟨_, rfl⟩
            have ecr : (c : Int) % (n : Int) = (cr : Int) := by rw [hcr, Int.natCast_emod]
            by_cases h3 : cr = 0
            · obtain rfl : c = l1 := by
                obtain ⟨k, k1, k2, k3⟩ := HC.out
                rw [HL1.out, k3, HQ.out]
                exact lcm_stop pm k1 (by rw [← HQ.out]; exact k2) (by rw [← k3, ← hcr, h3])
              subst h3
              clear hcr
              go_wp2_with fail
              refine (HAW.out _).mono ?_
              rintro e wa ⟨rfl, hb⟩
              replace HB := HB.trans (hb.mono HB.size)
              clear hb
              go_wp2_with fail
              refine (HNf.out _).mono ?_
              rintro e wb ⟨rfl, hb⟩
              replace HB := HB.trans (hb.mono HB.size)
              clear hb
              go_wp2_with fail
              refine (HNl.out _).mono ?_
              rintro e wc ⟨rfl, hb⟩
              replace HB := HB.trans (hb.mono HB.size)
              clear hb
              go_wp2
              go_ret
              exact ⟨rfl, HB⟩
            · have HC2 : Hid (c + m ≤ 2304 ∧ ∃ k, 1 ≤ k ∧ k ≤ q ∧ c + m = m * k) := by
                obtain ⟨k, k1, k2, k3⟩ := HC.out
                have h5 : k + 1 ≤ q := by
                  rw [HQ.out]
                  exact lcm_go (by rw [← HQ.out]; exact k2) (by rw [← k3, ← hcr]; exact h3)
                have h6 : c + m = m * (k + 1) := by rw [k3, Nat.mul_add, Nat.mul_one]
                refine Lib.hid ⟨?_, k + 1, by omega, h5, h6⟩
                rw [h6]
                exact Nat.le_trans (Nat.mul_le_mul_left m h5) (by rw [← HL1.out]; exact hql)
              have h7 := HC2.out.1
              clear hcr
              go_wp2
              go_roundw
              case rel => exact ⟨c + m, by go_num, h7, Lib.hid HC2.out.2, HB⟩
              case measure => simp [intOf]; omega
        · subst h1
          have HK2 := Lib.hid (fun (k : Nat) (hk : k < f + 1) => (show ¬ (k % m = A % m ∧ k % n = B % n) from by
            by_cases hkf : k = f
            · subst hkf
              intro h3
              exact h2 (by rw [HFM.out.2, HAB.out.2, h3.2])
            · exact HK.out k (by omega)))
          go_wp2
          go_quiet (fail)
          go_wp2
          go_roundw
          case rel => exact ⟨f + 1, by omega, by go_num, HK2, below_draws HB _⟩
          case measure => simp [intOf]; omega
      · have HK2 := Lib.hid (fun (k : Nat) (hk : k < f + 1) => (show ¬ (k % m = A % m ∧ k % n = B % n) from by
          by_cases hkf : k = f
          · subst hkf
            intro h3
            exact h1 (by rw [HFM.out.1, HAB.out.1, h3.1])
          · exact HK.out k (by omega)))
        have h1b : ((fm : Int) == (am : Int)) = false := by simp; omega
        have h1c : ¬ ((fm : Int) = (am : Int)) := by omega
        have h1d : decide ((fm : Int) = (am : Int)) = false := by simp; omega
        have h1e : ((fm : Int) != (am : Int)) = true := by simp; omega
        have h1f : decide (fm = am) = false := by simp; omega
        have h1g : (fm == am) = false := by simp; omega
        have h1h : (fm != am) = true := by simp; omega
        go_wp2
        go_quiet (fail)
        go_wp2
        go_roundw
        case rel => exact ⟨f + 1, by omega, by go_num, HK2, below_draws HB _⟩
        case measure => simp [intOf]; omega
    · obtain rfl : f = mn := by omega
      obtain ⟨rfl, rfl, rfl⟩ : ev = 9 ∧ xv = 0 ∧ lv = 0 := by
        rcases HF.out with ⟨e0, x1, x2, x3, x4⟩ | ⟨x1, x2, x3, _⟩
        · exfalso
          refine HK.out xv ?_ ⟨x1, x2⟩
          have : m * (n / Nat.gcd m n) ≤ m * n := Nat.mul_le_mul_left m (Nat.div_le_self _ _)
          have := HL.out
          omega
        · exact ⟨x1, x2, x3⟩
      go_wp2
      go_quiet (fail)
      go_wp2_with fail
      refine (HAW.out _).mono ?_
      rintro e wa ⟨rfl, hb⟩
      have HZ : (bs 0).toList.isEmpty = true := by rw [bs_isEmpty]; rfl
      go_wp2
      go_ret
      exact ⟨rfl, (below_draws HB _).trans (hb.mono (below_draws HB _).size)⟩

end Go.Proofs.Ytppdolmeeiookaa
