/-
  The contract of math/bits.Div64 for a divisor whose highest bit is set.
-/
import Derived.Test.YtmiafkbjmkaebaaGreatModC
import Derived.RegionTactic
import Derived.BigRegion
import Derived.Deep.Cut
import Derived.Deep.CutBlock
namespace Go.Proofs.YtmiafkbjmkaebaaGreat
open Go.RowKit Num

/-- A guess of the quotient Q of U B + L and Y1 B + Y0. -/
structure Gd (U Y1 Q a b : Nat) : Prop where
  eq : a * Y1 + b = U
  ge : Q ≤ a
  lt : b < 4294967296
  le : a ≤ 4294967297

theorem gd_next {U Y1 Y0 L Q a b : Nat} (hQ : Q = (U * 4294967296 + L) / (Y1 * 4294967296 + Y0)) (hQB : Q < 4294967296) (hY : 0 < Y1) (h : a * Y1 + b = U) (hle : Q ≤ a) (hc : 4294967296 ≤ a ∨ 4294967296 * b + L < a * Y0) :
    Q ≤ a - 1 ∧ 0 < a ∧ (a - 1) * Y1 + (b + Y1) = U := by
  have ha : 0 < a := by
    rcases hc with hc | hc
    · omega
    · rcases Nat.eq_zero_or_pos a with h0 | h0
      · rw [h0] at hc; omega
      · exact h0
  have h1 : Q < a := by
    rcases hc with hc | hc
    · omega
    · rw [hQ, Nat.div_lt_iff_lt_mul (by omega), Nat.mul_add, ← Nat.mul_assoc, ← h, Nat.add_mul]
      omega
  refine ⟨by omega, ha, ?_⟩
  obtain ⟨c, rfl⟩ : ∃ c, a = c + 1 := ⟨a - 1, by omega⟩
  rw [Nat.add_mul, Nat.one_mul] at h
  rw [Nat.add_sub_cancel]
  omega
theorem gd_end {U Y1 Y0 L Q a b : Nat} (hQ : Q = (U * 4294967296 + L) / (Y1 * 4294967296 + Y0)) (hY : 0 < Y1) (h : a * Y1 + b = U) (hle : Q ≤ a) (hc : a * Y0 ≤ 4294967296 * b + L) : a = Q := by
  have h1 : a ≤ Q := by
    rw [hQ, Nat.le_div_iff_mul_le (by omega), Nat.mul_add, ← Nat.mul_assoc, ← h, Nat.add_mul]
    omega
  omega
theorem gd_break {U Y1 Y0 L Q a b : Nat} (hQ : Q = (U * 4294967296 + L) / (Y1 * 4294967296 + Y0)) (hY : 0 < Y1) (hY0 : Y0 < 4294967296) (hU : U < Y1 * 4294967296 + Y0) (h : a * Y1 + b = U) (hle : Q ≤ a) (hc : 4294967296 ≤ b) : a = Q := by
  refine gd_end hQ hY h hle ?_
  have ha : a < 4294967296 := by
    apply Decidable.byContradiction
    intro hn
    have : 4294967296 * Y1 ≤ a * Y1 := Nat.mul_le_mul_right _ (by omega)
    omega
  have h1 : a * Y0 ≤ 4294967296 * 4294967296 := Nat.mul_le_mul (by omega) (by omega)
  have h2 : 4294967296 * 4294967296 ≤ 4294967296 * b := Nat.mul_le_mul_left _ hc
  omega
theorem gd_start {U Y1 Y0 L Q : Nat} (hQ : Q = (U * 4294967296 + L) / (Y1 * 4294967296 + Y0)) (hY : 2147483648 ≤ Y1) (hY1 : Y1 < 4294967296) (hY0 : Y0 < 4294967296) (hL : L < 4294967296) (hU : U < Y1 * 4294967296 + Y0) : Gd U Y1 Q (U / Y1) (U % Y1) ∧ Q < 4294967296 := by
  have hd := Nat.div_add_mod U Y1
  have hm := Nat.mod_lt U (show 0 < Y1 by omega)
  rw [Nat.mul_comm] at hd
  refine ⟨⟨hd, ?_, by omega, ?_⟩, ?_⟩
  · rw [hQ, ← Nat.lt_succ_iff, Nat.div_lt_iff_lt_mul (by omega), Nat.succ_eq_add_one]
    generalize U / Y1 = a at *
    rw [Nat.mul_add, ← Nat.mul_assoc, Nat.add_mul, Nat.one_mul, Nat.add_mul]
    omega
  · rw [← Nat.lt_succ_iff, Nat.div_lt_iff_lt_mul (by omega)]
    omega
  · rw [hQ, Nat.div_lt_iff_lt_mul (by omega)]
    have := Nat.mul_le_mul_right 4294967296 (show U + 1 ≤ Y1 * 4294967296 + Y0 by omega)
    omega
theorem wrap_back {a b c r : Nat} (h : a = b + r) (hr : r < 18446744073709551616) : IntKind.u64.wrap (IntKind.u64.wrap (IntKind.u64.wrap ((a : Int) - c) + c) - IntKind.u64.wrap (b : Int)) = (r : Int) := by
  simp only [IntKind.wrap_u64]; omega

theorem two_step {h K L1 L0 Q1 Q0 y R1 R0 : Nat} (e1 : h * K + L1 = Q1 * y + R1) (e0 : R1 * K + L0 = Q0 * y + R0) : h * (K * K) + (L1 * K + L0) = (Q1 * K + Q0) * y + R0 := by
  have h1 : (h * K + L1) * K = (Q1 * y + R1) * K := by rw [e1]
  rw [Nat.add_mul, Nat.add_mul, Nat.mul_assoc h K K] at h1
  rw [Nat.add_mul, Nat.mul_assoc Q1 K y, Nat.mul_comm K y, ← Nat.mul_assoc Q1 y K]
  omega
theorem quo_rem {N a y r : Nat} (h : N = a * y + r) (hr : r < y) : N / y = a ∧ N % y = r := by
  subst h
  rw [Nat.mul_comm]
  exact ⟨by rw [Nat.mul_add_div (by omega), Nat.div_eq_of_lt hr, Nat.add_zero], by rw [Nat.mul_add_mod, Nat.mod_eq_of_lt hr]⟩

set_option maxHeartbeats 2000000 in
set_option maxRecDepth 100000 in
theorem div64_pos (hi lo y N : Nat) (hN : N = hi * 18446744073709551616 + lo) (h0 : 0 < hi) (hh : hi < y) (hl : lo < 18446744073709551616) (hy : y < 18446744073709551616) (hy2 : 9223372036854775808 ≤ y) (w : World) :
    Calls Tryz.prog 132 #[.int .u64 (hi : Int), .int .u64 (lo : Int), .int .u64 (y : Int)] w (Same w (.tuple #[.int .u64 ((N / y : Nat) : Int), .int .u64 ((N % y : Nat) : Int)])) := by
  have hbl : Lib.bitLen y = 64 := by
    have h := bitLen_pow 64 y (by decide) hy (by omega)
    have h2 : Lib.bitLen y ≤ 64 := Lib.bitLen_le y 64 (by decide) hy
    rcases Nat.lt_or_ge (Lib.bitLen y) 64 with h3 | h3
    · have : 2 ^ Lib.bitLen y ≤ 2 ^ 63 := Nat.pow_le_pow_right (by decide) (by omega)
      have e : (2 : Nat) ^ 63 = 9223372036854775808 := by decide
      omega
    · omega
  obtain ⟨Y1, hY1⟩ : ∃ Y1, Y1 = y / 4294967296 := ⟨_, rfl⟩
  obtain ⟨Y0, hY0⟩ : ∃ Y0, Y0 = y % 4294967296 := ⟨_, rfl⟩
  obtain ⟨L1, hL1⟩ : ∃ L1, L1 = lo / 4294967296 := ⟨_, rfl⟩
  obtain ⟨L0, hL0⟩ : ∃ L0, L0 = lo % 4294967296 := ⟨_, rfl⟩
  have hyY : y = Y1 * 4294967296 + Y0 := by omega
  obtain ⟨Q1, hQ1⟩ : ∃ Q1, Q1 = (hi * 4294967296 + L1) / (Y1 * 4294967296 + Y0) := ⟨_, rfl⟩
  obtain ⟨R1, hR1⟩ : ∃ R1, R1 = (hi * 4294967296 + L1) % (Y1 * 4294967296 + Y0) := ⟨_, rfl⟩
  obtain ⟨Q0, hQ0⟩ : ∃ Q0, Q0 = (R1 * 4294967296 + L0) / (Y1 * 4294967296 + Y0) := ⟨_, rfl⟩
  obtain ⟨R0, hR0⟩ : ∃ R0, R0 = (R1 * 4294967296 + L0) % (Y1 * 4294967296 + Y0) := ⟨_, rfl⟩
  have e1 : hi * 4294967296 + L1 = Q1 * y + R1 := by
    have := Nat.div_add_mod (hi * 4294967296 + L1) (Y1 * 4294967296 + Y0)
    rw [← hQ1, ← hR1, ← hyY, Nat.mul_comm] at this
    exact this.symm
  have e0 : R1 * 4294967296 + L0 = Q0 * y + R0 := by
    have := Nat.div_add_mod (R1 * 4294967296 + L0) (Y1 * 4294967296 + Y0)
    rw [← hQ0, ← hR0, ← hyY, Nat.mul_comm] at this
    exact this.symm
  have r1 : R1 < y := by rw [hR1, hyY]; exact Nat.mod_lt _ (by omega)
  have r0 : R0 < y := by rw [hR0, hyY]; exact Nat.mod_lt _ (by omega)
  have eA : N = (Q1 * 4294967296 + Q0) * y + R0 := by
    refine Eq.trans ?_ (two_step e1 e0)
    omega
  obtain ⟨eQ, eR⟩ := quo_rem eA r0
  rw [eQ, eR]
  clear eQ eR eA
  have g1 := gd_start hQ1 (by omega) (by omega) (by omega) (by omega) (by omega)
  have g0 := gd_start (U := R1) hQ0 (by omega) (by omega) (by omega) (by omega) (by omega)
  -- the machine's numbers
  obtain ⟨A1, hA1⟩ : ∃ A, A = hi / Y1 := ⟨_, rfl⟩
  obtain ⟨B1, hB1⟩ : ∃ A, A = hi % Y1 := ⟨_, rfl⟩
  obtain ⟨A0, hA0⟩ : ∃ A, A = R1 / Y1 := ⟨_, rfl⟩
  obtain ⟨B0, hB0⟩ : ∃ A, A = R1 % Y1 := ⟨_, rfl⟩
  rw [← hA1, ← hB1] at g1
  rw [← hA0, ← hB0] at g0
  obtain ⟨C1, hC1⟩ : ∃ A, A = A1 * Y1 := ⟨_, rfl⟩
  obtain ⟨C0, hC0⟩ : ∃ A, A = A0 * Y1 := ⟨_, rfl⟩
  obtain ⟨H, hH⟩ : ∃ H : Int, H = hi := ⟨_, rfl⟩
  obtain ⟨L, hL⟩ : ∃ L : Int, L = lo := ⟨_, rfl⟩
  obtain ⟨Y, hY⟩ : ∃ Y : Int, Y = y := ⟨_, rfl⟩
  obtain ⟨T1, hT1⟩ : ∃ T : Int, T = Y1 := ⟨_, rfl⟩
  obtain ⟨T0, hT0⟩ : ∃ T : Int, T = Y0 := ⟨_, rfl⟩
  obtain ⟨M1, hM1⟩ : ∃ T : Int, T = L1 := ⟨_, rfl⟩
  obtain ⟨M0, hM0⟩ : ∃ T : Int, T = L0 := ⟨_, rfl⟩
  obtain ⟨a1, ha1⟩ : ∃ T : Int, T = (A1 : Int) := ⟨_, rfl⟩
  obtain ⟨p1, hp1⟩ : ∃ T : Int, T = (C1 : Int) := ⟨_, rfl⟩
  obtain ⟨b1, hb1⟩ : ∃ T : Int, T = (B1 : Int) := ⟨_, rfl⟩
  obtain ⟨a0, ha0⟩ : ∃ T : Int, T = (A0 : Int) := ⟨_, rfl⟩
  obtain ⟨p0, hp0⟩ : ∃ T : Int, T = (C0 : Int) := ⟨_, rfl⟩
  obtain ⟨b0, hb0⟩ : ∃ T : Int, T = (B0 : Int) := ⟨_, rfl⟩
  obtain ⟨q1, hq1⟩ : ∃ T : Int, T = Q1 := ⟨_, rfl⟩
  obtain ⟨q0, hq0⟩ : ∃ T : Int, T = Q0 := ⟨_, rfl⟩
  obtain ⟨s1, hs1⟩ : ∃ T : Int, T = R1 := ⟨_, rfl⟩
  obtain ⟨s0, hs0⟩ : ∃ T : Int, T = R0 := ⟨_, rfl⟩
  obtain ⟨z, hz⟩ : ∃ T : Int, T = ((Q1 * 4294967296 + Q0 : Nat) : Int) := ⟨_, rfl⟩
  have LZ : ∀ W, Calls Tryz.prog 85 #[.int .u64 Y] W (Same W (.int .i64 0)) := fun W => by
    have := lz64_any y hy W
    rw [hbl, ← hY] at this
    exact this
  rw [← hH, ← hL, ← hY, ← hz, ← hs0]
  have d1 := g1.1.eq
  have d0 := g0.1.eq
  rw [← hC1] at d1
  rw [← hC0] at d0
  have k1 : Q1 < 4294967296 := g1.2
  have k0 : Q0 < 4294967296 := g0.2
  have l1a := g1.1.le
  have l0a := g0.1.le
  have fwY : IntKind.u64.wrap Y = Y := by rw [IntKind.wrap_u64]; omega
  have fwH : IntKind.u64.wrap H = H := by rw [IntKind.wrap_u64]; omega
  have fwL : IntKind.u64.wrap L = L := by rw [IntKind.wrap_u64]; omega
  have fL64 : L / 18446744073709551616 = 0 := by omega
  have for0 : bits BinOp.or IntKind.u64 H 0 = H := by
    have := u64_or_nat hi 0 (by omega) (by decide)
    rw [hH]; simpa using this
  have fT1 : Y / 4294967296 = T1 := by omega
  have fT0 : bits BinOp.and IntKind.u64 Y 4294967295 = T0 := by rw [hY, m64_mask y hy, hT0, hY0]
  have fM1 : L / 4294967296 = M1 := by omega
  have fM0 : bits BinOp.and IntKind.u64 L 4294967295 = M0 := by rw [hL, m64_mask lo hl, hM0, hL0]
  have fT1z : (T1 == 0) = false := by simp; omega
  have fT1n : ¬ T1 = 0 := by omega
  have fA1 : H.tdiv T1 = a1 := by rw [hH, hT1, ha1, hA1]; rfl
  have fA1w : IntKind.u64.wrap a1 = a1 := by rw [IntKind.wrap_u64]; omega
  have fP1 : a1 * T1 = p1 := by rw [ha1, hT1, hp1, hC1]; simp
  have fP1w : IntKind.u64.wrap p1 = p1 := by rw [IntKind.wrap_u64]; omega
  have fB1 : H - p1 = b1 := by omega
  have fB1w : IntKind.u64.wrap b1 = b1 := by rw [IntKind.wrap_u64]; omega
  have fS1 : IntKind.u64.wrap (IntKind.u64.wrap (IntKind.u64.wrap (H * 4294967296) + M1) - IntKind.u64.wrap (q1 * Y)) = s1 := by
    have e : q1 * Y = ((Q1 * y : Nat) : Int) := by rw [hq1, hY]; simp
    rw [e]
    simp only [IntKind.wrap_u64]
    omega
  have fA0 : s1.tdiv T1 = a0 := by rw [hs1, hT1, ha0, hA0]; rfl
  have fA0w : IntKind.u64.wrap a0 = a0 := by rw [IntKind.wrap_u64]; omega
  have fP0 : a0 * T1 = p0 := by rw [ha0, hT1, hp0, hC0]; simp
  have fP0w : IntKind.u64.wrap p0 = p0 := by rw [IntKind.wrap_u64]; omega
  have fB0 : s1 - p0 = b0 := by omega
  have fB0w : IntKind.u64.wrap b0 = b0 := by rw [IntKind.wrap_u64]; omega
  have fZ : IntKind.u64.wrap (IntKind.u64.wrap (q1 * 4294967296) + q0) = z := by
    simp only [IntKind.wrap_u64]
    omega
  have fS0 : IntKind.u64.wrap (IntKind.u64.wrap (IntKind.u64.wrap (s1 * 4294967296) + M0) - IntKind.u64.wrap (q0 * Y)) = s0 := by
    have e : q0 * Y = ((Q0 * y : Nat) : Int) := by rw [hq0, hY]; simp
    rw [e]
    simp only [IntKind.wrap_u64]
    omega
  have fYH : ¬ Y ≤ H := by omega
  have fYz : (Y == 0) = false := by simp; omega
  have fHz : (H == 0) = false := by simp; omega
  have F1 := Lib.hid (And.intro g1 (And.intro hQ1 (And.intro (show hi < Y1 * 4294967296 + Y0 by omega) (show L1 < 4294967296 by omega))))
  have F0 := Lib.hid (And.intro g0 (And.intro hQ0 (And.intro (show R1 < Y1 * 4294967296 + Y0 by omega) (show L0 < 4294967296 by omega))))
  have FY := Lib.hid (And.intro (show 0 < Y1 by omega) (And.intro (show Y1 < 4294967296 by omega) (show Y0 < 4294967296 by omega)))
  have W1 := Lib.hid (And.intro hT1 (And.intro hT0 hM1))
  have W0 := Lib.hid (And.intro hT1 (And.intro hT0 hM0))
  have V := Lib.hid (And.intro ha1 (And.intro hb1 (And.intro hq1 (And.intro ha0 (And.intro hb0 hq0)))))
  clear hbl hA1 hB1 hA0 hB0 hC1 hC0 hN hY1 hY0 hL1 hL0 hyY hQ1 hR1 hQ0 hR0 e1 e0 r1 r0 g1 g0 d1 d0 k1 k0 l1a l0a hT1 hT0 hM1 hM0 ha1 hp1 hb1 ha0 hp0 hb0 hq1 hq0 hs1 hs0 hz hH hL hY h0 hh hl hy hy2
  go_enter Tryz.func132, Tryz.ntmps132
  go_upto_block 0 with (go_at_call 85; refine (LZ _).mono ?_; rintro e w' ⟨rfl, rfl⟩)
  go_cut [15] from 17 (fun x wx => x = .int .u64 q1 ∧ wx = w)
  case first =>
    go_wp2_with fail
    go_loopw [15, 16] (fun x1 x2 wr => ∃ (q r : Int) (a b : Nat), x1 = .int .u64 q ∧ x2 = .int .u64 r ∧ Hid (q = a ∧ r = b ∧ Gd hi Y1 Q1 a b) ∧ wr = w) (fun x1 _ _ => (intOf x1).toNat)
    case atStart => exact ⟨a1, b1, A1, B1, rfl, rfl, Lib.hid ⟨V.out.1, V.out.2.1, F1.out.1.1⟩, rfl⟩
    case round =>
      obtain ⟨q, r, a, b, rfl, rfl, HG, rfl⟩ := hrel
      obtain ⟨hq, hr, G⟩ := HG.out
      obtain ⟨⟨_, hQB⟩, hQ, hU, hLl⟩ := F1.out
      obtain ⟨hYp, hYl, hY0l⟩ := FY.out
      obtain ⟨hT1, hT0, hM⟩ := W1.out
      have hGl := G.lt
      have hGe := G.le
      by_cases c1 : 4294967296 ≤ a
      · have c1' : 4294967296 ≤ q := by omega
        obtain ⟨n1, n2, n3⟩ := gd_next hQ hQB hYp G.eq G.ge (.inl c1)
        have hwq : IntKind.u64.wrap (q - 1) = q - 1 := by rw [IntKind.wrap_u64]; omega
        have hwr : IntKind.u64.wrap (r + T1) = r + T1 := by rw [IntKind.wrap_u64]; omega
        by_cases c2 : 4294967296 ≤ b + Y1
        · have c2' : 4294967296 ≤ r + T1 := by omega
          have HQE := Lib.hid (show q - 1 = q1 by have := gd_break hQ hYp hY0l hU n3 n1 c2; have := V.out.2.2.1; omega)
          clear hq hr G hQB hQ hU hLl hYp hYl hY0l hT1 hT0 hM hGl hGe n1 n2 n3 c2 HG
          clear c1
          go_wp2
          go_meet
          exact ⟨by rw [HQE.out], rfl⟩
        · have c2' : r + T1 < 4294967296 := by omega
          have HN := Lib.hid (show q - 1 = ((a - 1 : Nat) : Int) ∧ r + T1 = ((b + Y1 : Nat) : Int) ∧ Gd hi Y1 Q1 (a - 1) (b + Y1) from ⟨by omega, by omega, ⟨n3, n1, by omega, by omega⟩⟩)
          have HM := Lib.hid (show (q - 1).toNat < q.toNat by omega)
          clear hq hr G hQB hQ hU hLl hYp hYl hY0l hT1 hT0 hM hGl hGe n1 n2 n3 c2 HG
          clear c1
          go_wp2
          go_roundw
          case rel => exact ⟨q - 1, r + T1, a - 1, b + Y1, rfl, rfl, HN, trivial⟩
          case measure => exact HM.out
      · have c1' : q < 4294967296 := by omega
        obtain ⟨m, hm⟩ : ∃ m : Nat, m = a * Y0 := ⟨_, rfl⟩
        have hml : m ≤ 4294967295 * 4294967295 := by rw [hm]; exact Nat.mul_le_mul (by omega) (by omega)
        obtain ⟨mi, hmi⟩ : ∃ x : Int, x = m := ⟨_, rfl⟩
        obtain ⟨k1, hk1⟩ : ∃ x : Int, x = 4294967296 * r := ⟨_, rfl⟩
        obtain ⟨k2, hk2⟩ : ∃ x : Int, x = k1 + M1 := ⟨_, rfl⟩
        have hwm : IntKind.u64.wrap (q * T0) = mi := by
          rw [show q * T0 = (m : Int) from by rw [hq, hT0, hm]; simp, hmi, IntKind.wrap_u64]; omega
        have hwk1 : IntKind.u64.wrap (4294967296 * r) = k1 := by rw [IntKind.wrap_u64]; omega
        have hwk2 : IntKind.u64.wrap (k1 + M1) = k2 := by rw [IntKind.wrap_u64]; omega
        rw [hm] at hmi
        by_cases c3 : 4294967296 * b + L1 < a * Y0
        · have c3' : k2 < mi := by omega
          obtain ⟨n1, n2, n3⟩ := gd_next hQ hQB hYp G.eq G.ge (.inr c3)
          have hwq : IntKind.u64.wrap (q - 1) = q - 1 := by rw [IntKind.wrap_u64]; omega
          have hwr : IntKind.u64.wrap (r + T1) = r + T1 := by rw [IntKind.wrap_u64]; omega
          by_cases c2 : 4294967296 ≤ b + Y1
          · have c2' : 4294967296 ≤ r + T1 := by omega
            have HQE := Lib.hid (show q - 1 = q1 by have := gd_break hQ hYp hY0l hU n3 n1 c2; have := V.out.2.2.1; omega)
            clear hq hr G hQB hQ hU hLl hYp hYl hY0l hT1 hT0 hM hGl hGe n1 n2 n3 c2 HG
            clear c1 c3 hm hml hmi hk1 hk2
            go_wp2
            go_meet
            exact ⟨by rw [HQE.out], rfl⟩
          · have c2' : r + T1 < 4294967296 := by omega
            have HN := Lib.hid (show q - 1 = ((a - 1 : Nat) : Int) ∧ r + T1 = ((b + Y1 : Nat) : Int) ∧ Gd hi Y1 Q1 (a - 1) (b + Y1) from ⟨by omega, by omega, ⟨n3, n1, by omega, by omega⟩⟩)
            have HM := Lib.hid (show (q - 1).toNat < q.toNat by omega)
            clear hq hr G hQB hQ hU hLl hYp hYl hY0l hT1 hT0 hM hGl hGe n1 n2 n3 c2 HG
            clear c1 c3 hm hml hmi hk1 hk2
            go_wp2
            go_roundw
            case rel => exact ⟨q - 1, r + T1, a - 1, b + Y1, rfl, rfl, HN, trivial⟩
            case measure => exact HM.out
        · have c3' : ¬ k2 < mi := by omega
          have HQE := Lib.hid (show q = q1 by have := gd_end hQ hYp G.eq G.ge (by omega); have := V.out.2.2.1; omega)
          clear hq hr G hQB hQ hU hLl hYp hYl hY0l hT1 hT0 hM hGl hGe HG c1 c3 hm hml hmi hk1 hk2
          go_wp2
          go_meet
          exact ⟨by rw [HQE.out], rfl⟩
  case rest =>
    obtain ⟨rfl, rfl⟩ := hcut
    go_upto_block 2 with fail
    go_cut [18] from 19 (fun x wx => x = .int .u64 q0 ∧ wx = wc)
    case first =>
      go_wp2_with fail
      go_loopw [18, 16] (fun x1 x2 wr => ∃ (q r : Int) (a b : Nat), x1 = .int .u64 q ∧ x2 = .int .u64 r ∧ Hid (q = a ∧ r = b ∧ Gd R1 Y1 Q0 a b) ∧ wr = wc) (fun x1 _ _ => (intOf x1).toNat)
      case atStart => exact ⟨a0, b0, A0, B0, rfl, rfl, Lib.hid ⟨V.out.2.2.2.1, V.out.2.2.2.2.1, F0.out.1.1⟩, rfl⟩
      case round =>
        obtain ⟨q, r, a, b, rfl, rfl, HG, rfl⟩ := hrel
        obtain ⟨hq, hr, G⟩ := HG.out
        obtain ⟨⟨_, hQB⟩, hQ, hU, hLl⟩ := F0.out
        obtain ⟨hYp, hYl, hY0l⟩ := FY.out
        obtain ⟨hT1, hT0, hM⟩ := W0.out
        have hGl := G.lt
        have hGe := G.le
        by_cases c1 : 4294967296 ≤ a
        · have c1' : 4294967296 ≤ q := by omega
          obtain ⟨n1, n2, n3⟩ := gd_next hQ hQB hYp G.eq G.ge (.inl c1)
          have hwq : IntKind.u64.wrap (q - 1) = q - 1 := by rw [IntKind.wrap_u64]; omega
          have hwr : IntKind.u64.wrap (r + T1) = r + T1 := by rw [IntKind.wrap_u64]; omega
          by_cases c2 : 4294967296 ≤ b + Y1
          · have c2' : 4294967296 ≤ r + T1 := by omega
            have HQE := Lib.hid (show q - 1 = q0 by have := gd_break hQ hYp hY0l hU n3 n1 c2; have := V.out.2.2.2.2.2; omega)
            clear hq hr G hQB hQ hU hLl hYp hYl hY0l hT1 hT0 hM hGl hGe n1 n2 n3 c2 HG
            clear c1
            go_wp2
            go_meet
            exact ⟨by rw [HQE.out], rfl⟩
          · have c2' : r + T1 < 4294967296 := by omega
            have HN := Lib.hid (show q - 1 = ((a - 1 : Nat) : Int) ∧ r + T1 = ((b + Y1 : Nat) : Int) ∧ Gd R1 Y1 Q0 (a - 1) (b + Y1) from ⟨by omega, by omega, ⟨n3, n1, by omega, by omega⟩⟩)
            have HM := Lib.hid (show (q - 1).toNat < q.toNat by omega)
            clear hq hr G hQB hQ hU hLl hYp hYl hY0l hT1 hT0 hM hGl hGe n1 n2 n3 c2 HG
            clear c1
            go_wp2
            go_roundw
            case rel => exact ⟨q - 1, r + T1, a - 1, b + Y1, rfl, rfl, HN, trivial⟩
            case measure => exact HM.out
        · have c1' : q < 4294967296 := by omega
          obtain ⟨m, hm⟩ : ∃ m : Nat, m = a * Y0 := ⟨_, rfl⟩
          have hml : m ≤ 4294967295 * 4294967295 := by rw [hm]; exact Nat.mul_le_mul (by omega) (by omega)
          obtain ⟨mi, hmi⟩ : ∃ x : Int, x = m := ⟨_, rfl⟩
          obtain ⟨k1, hk1⟩ : ∃ x : Int, x = 4294967296 * r := ⟨_, rfl⟩
          obtain ⟨k2, hk2⟩ : ∃ x : Int, x = k1 + M0 := ⟨_, rfl⟩
          have hwm : IntKind.u64.wrap (q * T0) = mi := by
            rw [show q * T0 = (m : Int) from by rw [hq, hT0, hm]; simp, hmi, IntKind.wrap_u64]; omega
          have hwk1 : IntKind.u64.wrap (4294967296 * r) = k1 := by rw [IntKind.wrap_u64]; omega
          have hwk2 : IntKind.u64.wrap (k1 + M0) = k2 := by rw [IntKind.wrap_u64]; omega
          rw [hm] at hmi
          by_cases c3 : 4294967296 * b + L0 < a * Y0
          · have c3' : k2 < mi := by omega
            obtain ⟨n1, n2, n3⟩ := gd_next hQ hQB hYp G.eq G.ge (.inr c3)
            have hwq : IntKind.u64.wrap (q - 1) = q - 1 := by rw [IntKind.wrap_u64]; omega
            have hwr : IntKind.u64.wrap (r + T1) = r + T1 := by rw [IntKind.wrap_u64]; omega
            by_cases c2 : 4294967296 ≤ b + Y1
            · have c2' : 4294967296 ≤ r + T1 := by omega
              have HQE := Lib.hid (show q - 1 = q0 by have := gd_break hQ hYp hY0l hU n3 n1 c2; have := V.out.2.2.2.2.2; omega)
              clear hq hr G hQB hQ hU hLl hYp hYl hY0l hT1 hT0 hM hGl hGe n1 n2 n3 c2 HG
              clear c1 c3 hm hml hmi hk1 hk2
              go_wp2
              go_meet
              exact ⟨by rw [HQE.out], rfl⟩
            · have c2' : r + T1 < 4294967296 := by omega
              have HN := Lib.hid (show q - 1 = ((a - 1 : Nat) : Int) ∧ r + T1 = ((b + Y1 : Nat) : Int) ∧ Gd R1 Y1 Q0 (a - 1) (b + Y1) from ⟨by omega, by omega, ⟨n3, n1, by omega, by omega⟩⟩)
              have HM := Lib.hid (show (q - 1).toNat < q.toNat by omega)
              clear hq hr G hQB hQ hU hLl hYp hYl hY0l hT1 hT0 hM hGl hGe n1 n2 n3 c2 HG
              clear c1 c3 hm hml hmi hk1 hk2
              go_wp2
              go_roundw
              case rel => exact ⟨q - 1, r + T1, a - 1, b + Y1, rfl, rfl, HN, trivial⟩
              case measure => exact HM.out
          · have c3' : ¬ k2 < mi := by omega
            have HQE := Lib.hid (show q = q0 by have := gd_end hQ hYp G.eq G.ge (by omega); have := V.out.2.2.2.2.2; omega)
            clear hq hr G hQB hQ hU hLl hYp hYl hY0l hT1 hT0 hM hGl hGe HG c1 c3 hm hml hmi hk1 hk2
            go_wp2
            go_meet
            exact ⟨by rw [HQE.out], rfl⟩
    case rest =>
      obtain ⟨rfl, rfl⟩ := hcut
      go_wp2
      go_ret2
      exact ⟨rfl, rfl⟩

end Go.Proofs.YtmiafkbjmkaebaaGreat
