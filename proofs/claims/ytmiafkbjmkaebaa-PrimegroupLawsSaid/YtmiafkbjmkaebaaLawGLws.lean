/-
  The law of dominolaw09.PrimegroupLaws.
-/
import Derived.Test.YtmiafkbjmkaebaaPg
import Derived.Test.YtmiafkbjmkaebaaModO
import Derived.Test.YtmiafkbjmkaebaaIntN
namespace Go.Proofs.Ytmiafkbjmkaebaa
open Go.RowKit Num


theorem inv_ex9 {u v : Nat} (hv : v ≠ 0) (hg : Nat.gcd u v = 1) : ∃ X : Nat, X < v ∧ u * X % v = 1 % v := by
  obtain ⟨h1, _⟩ := bez_spec v u
  obtain ⟨x, Y, e1, e2, e3⟩ : ∃ x Y : Int, IsExt u v x Y := ⟨_, _, ext_of hv h1⟩
  rw [hg] at e1 e3
  rw [Nat.div_one] at e3
  obtain ⟨X, rfl⟩ := Int.eq_ofNat_of_zero_le e2
  refine ⟨X, by omega, ?_⟩
  have h : ((u * X : Nat) : Int) = 1 + (v : Int) * (-Y) := by rw [Int.natCast_mul, Int.mul_neg]; simp at e1; omega
  have h2 : ((u * X % v : Nat) : Int) = ((1 % v : Nat) : Int) := by
    rw [Int.natCast_emod, h, Int.add_mul_emod_self_left, Int.natCast_emod]
    rfl
  exact Int.ofNat.inj h2
theorem has_unit {p q a : Nat} (h : hasN p q a = true) : Nat.gcd a p = 1 ∧ 2 ≤ p := by
  obtain ⟨h0, h1, h2, h3⟩ := hasN_iff.1 h
  have hp2 : 2 ≤ p := by
    rcases (show p = 0 ∨ p = 1 ∨ 2 ≤ p by omega) with h4 | h4 | h4
    · omega
    · subst h4; omega
    · exact h4
  refine ⟨?_, hp2⟩
  have hd : Nat.gcd a p ∣ a ^ q := Nat.dvd_trans (Nat.gcd_dvd_left a p) (by
    obtain ⟨k, rfl⟩ : ∃ k, q = k + 1 := ⟨q - 1, by omega⟩
    exact ⟨a ^ k, by rw [Nat.pow_succ, Nat.mul_comm]⟩)
  have h5 : Nat.gcd a p ∣ a ^ q % p := (Nat.dvd_mod_iff (Nat.gcd_dvd_right a p)).2 hd
  rw [h3] at h5
  exact Nat.dvd_one.1 h5

/-- The power, for an exponent that is a whole number. -/
def pwr (p q a : Nat) (z : Int) : Nat := a ^ (z % (q : Int)).toNat % p
theorem pwr_nat (p q a k : Nat) : pwr p q a (k : Int) = a ^ (k % q) % p := by unfold pwr; rw [← Int.natCast_emod, Int.toNat_natCast]
theorem pwr_neg (p q a k m : Nat) (hm : m < q) (hkm : (k + m) % q = 0) : pwr p q a (-(k : Int)) = a ^ m % p := by
  have h3 : (-(k : Int)) % (q : Int) = (m : Int) := by
    have h4 : ((k + m : Nat) : Int) % (q : Int) = 0 := by rw [← Int.natCast_emod, hkm]; rfl
    have h5 : (-(k : Int)) % (q : Int) = ((m : Int) - ((k + m : Nat) : Int)) % (q : Int) := by congr 1; omega
    rw [h5, Int.sub_emod, h4, Int.sub_zero, Int.emod_emod]
    exact Int.emod_eq_of_lt (by omega) (by omega)
  unfold pwr
  rw [h3, Int.toNat_natCast]

theorem has_pow {p q a : Nat} (h : hasN p q a = true) (i : Nat) : hasN p q (a ^ i % p) = true := by
  obtain ⟨hq0, h1, h2, h3⟩ := hasN_iff.1 h
  have hp2 := (has_unit h).2
  have hpw : (a ^ i) ^ q % p = 1 := by
    rw [← Nat.pow_mul, Nat.mul_comm, Nat.pow_mul, Nat.pow_mod, h3, Nat.one_pow]
    exact Nat.mod_eq_of_lt (by omega)
  refine hasN_iff.2 ⟨hq0, ?_, Nat.mod_lt _ (by omega), by rw [← Nat.pow_mod, hpw]⟩
  intro h4
  rw [Nat.pow_mod, h4, Nat.zero_pow (by omega), Nat.zero_mod] at hpw
  cases hpw
theorem has_pwr {p q a : Nat} (h : hasN p q a = true) (z : Int) : hasN p q (pwr p q a z) = true := has_pow h _
theorem has_mul {p q a b : Nat} (ha : hasN p q a = true) (hb : hasN p q b = true) : hasN p q (a * b % p) = true := by
  obtain ⟨hq0, h1, h2, h3⟩ := hasN_iff.1 ha
  obtain ⟨_, k1, k2, k3⟩ := hasN_iff.1 hb
  have hp2 := (has_unit ha).2
  have hpw : (a * b) ^ q % p = 1 := by
    rw [Nat.mul_pow, Nat.mul_mod, h3, k3]
    exact Nat.mod_eq_of_lt (by omega)
  refine hasN_iff.2 ⟨hq0, ?_, Nat.mod_lt _ (by omega), by rw [← Nat.pow_mod, hpw]⟩
  intro h4
  rw [Nat.pow_mod, h4, Nat.zero_pow (by omega), Nat.zero_mod] at hpw
  cases hpw
theorem pwr_order {p q a : Nat} (h : hasN p q a = true) : pwr p q a (q : Int) = 1 := by
  rw [pwr_nat, Nat.mod_self, Nat.pow_zero]
  exact Nat.mod_eq_of_lt (by have := (has_unit h).2; omega)
theorem pwr_mul (p q a b : Nat) (z : Int) : pwr p q (a * b % p) z = pwr p q a z * pwr p q b z % p := by
  unfold pwr
  rw [← Nat.pow_mod, Nat.mul_pow, Nat.mul_mod]
theorem pwr_add {p q a : Nat} (h : hasN p q a = true) (x y : Int) : pwr p q a x * pwr p q a y % p = pwr p q a (x + y) := by
  obtain ⟨hq0, _, _, h3⟩ := hasN_iff.1 h
  unfold pwr
  have hx := Int.emod_nonneg x (show (q : Int) ≠ 0 by omega)
  have hy := Int.emod_nonneg y (show (q : Int) ≠ 0 by omega)
  obtain ⟨m, hm⟩ := Int.eq_ofNat_of_zero_le hx
  obtain ⟨n, hn⟩ := Int.eq_ofNat_of_zero_le hy
  rw [Int.add_emod, hm, hn, Int.toNat_natCast, Int.toNat_natCast, ← Int.natCast_add, ← Int.natCast_emod, Int.toNat_natCast, pow_red h3, ← Nat.mul_mod, Nat.pow_add]

/-- primegroup.Power of an element, for every whole exponent. -/
theorem ppow_any {p q a : Nat} {z : Int} (h8 : p < 256 ^ 8) (hq : q < Top) (h : hasN p q a = true) (hz : zabs z < Top) (W : World) :
    Calls Try.prog 10 #[.agg #[.string (bs p), .string (bs q)], .string (bs a), (.agg #[.bool (zneg z), .string (bs (zabs z))])] W (Made W (.tuple #[.string (bs (pwr p q a z)), .int .i64 0])) := by
  obtain ⟨hg, hp2⟩ := has_unit h
  obtain ⟨hq0, _, hap, hone⟩ := hasN_iff.1 h
  have h0 : p ≠ 0 := by omega
  have m60 : p < 256 ^ 60 := Nat.lt_of_lt_of_le h8 (Nat.pow_le_pow_right (by decide) (by decide))
  have a60 : a < 256 ^ 60 := Nat.lt_trans hap m60
  have hp : p < Top := lt_top60 m60
  have ha : a < Top := Nat.lt_trans hap hp
  have hc := cel1_ok hp hq ha
  rw [h] at hc
  have hv := vI_yes hz
  have hE : (bs (zabs z)).size ≤ 9223372036854775807 := by have := bs_small hz; omega
  rcases Int.lt_or_le z 0 with hn | hn
  · obtain ⟨k, rfl⟩ : ∃ k : Nat, z = -(k : Int) := ⟨z.natAbs, by omega⟩
    have hk0 : k ≠ 0 := by omega
    have hzn : zneg (-(k : Int)) = true := by unfold zneg; simp; omega
    have hza : zabs (-(k : Int)) = k := by unfold zabs; omega
    rw [hza] at hz hE hv
    rw [hzn] at hv
    rw [hzn, hza]
    obtain ⟨X, hX, hX1⟩ := inv_ex9 h0 hg
    obtain ⟨m, hm⟩ : ∃ m, m = (q - k % q) % q := ⟨_, rfl⟩
    have hmq : m < q := by rw [hm]; exact Nat.mod_lt _ (by omega)
    have hkm : (k + m) % q = 0 := by
      rw [hm, Nat.add_mod, Nat.mod_mod, ← Nat.add_mod, Nat.add_mod, Nat.add_mod_mod]
      have h3 := Nat.mod_lt k (show 0 < q by omega)
      rw [show k % q + (q - k % q) = q from by omega, Nat.mod_self]
    rw [pwr_neg p q a k m hmq hkm, pow_neg hone hX1 k m hkm]
    exact ppow_ok _ _ _ _ _ true W hE hv hc (fun W => mpower_inv a k p X W ha (Nat.lt_trans hX hp) hz hk0 h0 hp (fun W => minverse_ok a p X W a60 m60 h0 hg hX hX1))
  · obtain ⟨k, rfl⟩ := Int.eq_ofNat_of_zero_le hn
    rw [zabs_nat] at hz hE hv
    rw [zneg_nat] at hv
    rw [zneg_nat, zabs_nat, pwr_nat, pow_red hone]
    exact ppow_ok _ _ _ _ _ false W hE hv hc (fun W => mpower_pos a k p W ha hz h0 hp)
/-- primegroup.Mul of two elements. -/
theorem pmul_any {p q a b : Nat} (hp : p < Top) (hq : q < Top) (h : hasN p q a = true) (h' : hasN p q b = true) (W : World) :
    Calls Try.prog 9 #[.agg #[.string (bs p), .string (bs q)], .string (bs a), .string (bs b)] W (Made W (.tuple #[.string (bs (a * b % p)), .int .i64 0])) := by
  have ha : a < Top := Nat.lt_trans (hasN_iff.1 h).2.2.1 hp
  have hb : b < Top := Nat.lt_trans (hasN_iff.1 h').2.2.1 hp
  have hc := cel2_ok hp hq ha hb
  rw [h, h'] at hc
  exact pmul_ok p q a b W hp ha hb (by have := (has_unit h).2; omega) hc

theorem few9_four (A B S T D E : ByteArray) (hA : A.size ≤ 9223372036854775807) (hB : B.size ≤ 9223372036854775807) (hS : S.size ≤ 9223372036854775807) (hT : T.size ≤ 9223372036854775807) (hD : D.size ≤ 9223372036854775807) (hE : E.size ≤ 9223372036854775807) : ∃ b : Bool,
    (∀ (W : World) (gb : Nat), W.cell? ⟨gb, 0, none⟩ = some (.string S) → W.cell? ⟨gb, 1, none⟩ = some (.string T) → W.cell? ⟨gb, 2, none⟩ = some (.string D) → W.cell? ⟨gb, 3, none⟩ = some (.string E) → gb < W.heap.size → Calls Try.prog 5 #[.agg #[.string A, .string B], .slice (some ⟨gb, 0, none⟩) 4 4] W (Made W (.bool b))) ∧
    (b = true → A.size ≤ 8 ∧ B.size ≤ 10 ∧ S.size ≤ 20 ∧ T.size ≤ 20 ∧ D.size ≤ 20 ∧ E.size ≤ 20) := by
  obtain ⟨X, hX⟩ : ∃ X : Nat → ByteArray, X = fun k => if k = 0 then S else if k = 1 then T else if k = 2 then D else E := ⟨_, rfl⟩
  have x0 : X 0 = S := by rw [hX]; rfl
  have x1 : X 1 = T := by rw [hX]; rfl
  have x2 : X 2 = D := by rw [hX]; rfl
  have x3 : X 3 = E := by rw [hX]; rfl
  clear hX
  have h4 : ∀ k, k < 4 → k = 0 ∨ k = 1 ∨ k = 2 ∨ k = 3 := fun k hk => by omega
  have hx : ∀ k, k < 4 → (X k).size ≤ 9223372036854775807 := fun k hk => by
    rcases h4 k hk with rfl | rfl | rfl | rfl
    · rwa [x0]
    · rwa [x1]
    · rwa [x2]
    · rwa [x3]
  have hcs : ∀ (W : World) (gb : Nat), W.cell? ⟨gb, 0, none⟩ = some (.string S) → W.cell? ⟨gb, 1, none⟩ = some (.string T) → W.cell? ⟨gb, 2, none⟩ = some (.string D) → W.cell? ⟨gb, 3, none⟩ = some (.string E) → ∀ k, k < 4 → W.cell? ⟨gb, k, none⟩ = some (.string (X k)) := fun W gb c0 c1 c2 c3 k hk => by
    rcases h4 k hk with rfl | rfl | rfl | rfl
    · rwa [x0]
    · rwa [x1]
    · rwa [x2]
    · rwa [x3]
  have key : (∃ j, j < 4 ∧ 20 < (X j).size ∧ ∀ i, i < j → (X i).size ≤ 20) ∨ ∀ i, i < 4 → (X i).size ≤ 20 := by
    by_cases g0 : 20 < (X 0).size
    · exact .inl ⟨0, by omega, g0, fun i hi => by omega⟩
    by_cases g1 : 20 < (X 1).size
    · exact .inl ⟨1, by omega, g1, fun i hi => by (have h9 : i = 0 := by omega); subst h9; omega⟩
    by_cases g2 : 20 < (X 2).size
    · exact .inl ⟨2, by omega, g2, fun i hi => by rcases (show i = 0 ∨ i = 1 by omega) with rfl | rfl <;> omega⟩
    by_cases g3 : 20 < (X 3).size
    · exact .inl ⟨3, by omega, g3, fun i hi => by rcases (show i = 0 ∨ i = 1 ∨ i = 2 by omega) with rfl | rfl | rfl <;> omega⟩
    exact .inr fun i hi => by rcases h4 i hi with rfl | rfl | rfl | rfl <;> omega
  rcases key with ⟨j, hj, h1, h2⟩ | h1
  · exact ⟨false, fun W gb c0 c1 c2 c3 hg => few9 A B 4 j X gb false W hA hB hx (by decide) (by omega) (fun _ => ⟨h1, rfl⟩) h2 (fun h => absurd h (by omega)) (hcs W gb c0 c1 c2 c3) hg, fun h => by cases h⟩
  · refine ⟨_, fun W gb c0 c1 c2 c3 hg => few9 A B 4 4 X gb _ W hA hB hx (by decide) (by decide) (fun h => absurd h (by omega)) h1 (fun _ => rfl) (hcs W gb c0 c1 c2 c3) hg, fun h => ?_⟩
    simp only [Bool.and_eq_true, decide_eq_true_eq] at h
    have k0 := h1 0 (by omega)
    have k1 := h1 1 (by omega)
    have k2 := h1 2 (by omega)
    have k3 := h1 3 (by omega)
    rw [x0] at k0
    rw [x1] at k1
    rw [x2] at k2
    rw [x3] at k3
    exact ⟨h.1, h.2, k0, k1, k2, k3⟩
set_option maxHeartbeats 4000000 in
set_option maxRecDepth 100000 in
theorem glws_no0 (A B S T D E : ByteArray) (f g : Bool) (w : World) (HFW : ∀ (W : World) (gb : Nat), W.cell? ⟨gb, 0, none⟩ = some (.string S) → W.cell? ⟨gb, 1, none⟩ = some (.string T) → W.cell? ⟨gb, 2, none⟩ = some (.string D) → W.cell? ⟨gb, 3, none⟩ = some (.string E) → gb < W.heap.size → Calls Try.prog 5 #[.agg #[.string A, .string B], .slice (some ⟨gb, 0, none⟩) 4 4] W (Made W (.bool false))) :
    Calls Try.prog 3 #[.agg #[.string A, .string B, .string S, .string T, .bool f, .string D, .bool g, .string E]] w (Made w (.bool true)) := by
  have HF := Lib.hid HFW
  have HW := Lib.hid awake9
  clear HFW
  go_enter Try.func3, Try.ntmps3
  go_wp2
  go_region
  go_wp2_with fail
  obtain ⟨B0, e0⟩ : ∃ x, x = w.heap.size := ⟨_, rfl⟩
  obtain ⟨B1, e1⟩ : ∃ x, x = w.heap.size + 1 := ⟨_, rfl⟩
  obtain ⟨BF, eF⟩ : ∃ x, x = w.heap.size + 1 + 1 := ⟨_, rfl⟩
  obtain ⟨W1, hW1⟩ : ∃ W1, W1 = (((w.alloc (.cells #[.string A, .string B, .string S, .string T, .bool f, .string D, .bool g, .string E] 28)).alloc (.cells #[.string A, .string B] 24)).alloc (.cells #[.string S, .string T, .string D, .string E] 22)).drew := ⟨_, rfl⟩
  have K0 : Bk W1 B0 #[.string A, .string B, .string S, .string T, .bool f, .string D, .bool g, .string E] 28 := by rw [hW1, e0]; exact (((Bk.new _ _ _).alloc _).alloc _).drew
  have K1 : Bk W1 B1 #[.string A, .string B] 24 := by rw [hW1, e1]; exact ((Bk.new1 _ _ _ _).alloc _).drew
  have KF : Bk W1 BF #[.string S, .string T, .string D, .string E] 22 := by
    rw [hW1, eF]
    have h := Bk.new1 (w.alloc (.cells #[.string A, .string B, .string S, .string T, .bool f, .string D, .bool g, .string E] 28)) (.cells #[.string A, .string B] 24) #[.string S, .string T, .string D, .string E] 22
    simp only [World.size_alloc] at h
    exact h.drew
  have HV : Below w.heap.size w W1 := by
    rw [hW1]
    exact ((((Below.refl _ w).alloc (Nat.le_refl _) _).alloc (by simp) _).alloc (by simp; omega) _).drew
  rw [← eF, ← e1, ← e0, ← hW1]
  clear e0 e1 eF hW1
  refine (HF.out _ _ (KF.cell 0) (KF.cell 1) (KF.cell 2) (KF.cell 3) KF.lt).mono ?_
  rintro e u1 ⟨rfl, hb⟩
  clear KF
  replace HV := HV.trans (hb.mono HV.size)
  replace K0 := K0.below hb
  replace K1 := K1.below hb
  clear hb
  have c0_0 : u1.cell? ⟨B0, 0, none⟩ = some (.string A) := K0.cell 0
  have c0_1 : u1.cell? ⟨B0, 1, none⟩ = some (.string B) := K0.cell 1
  have c0_2 : u1.cell? ⟨B0, 2, none⟩ = some (.string S) := K0.cell 2
  have c0_3 : u1.cell? ⟨B0, 3, none⟩ = some (.string T) := K0.cell 3
  have c0_4 : u1.cell? ⟨B0, 4, none⟩ = some (.bool f) := K0.cell 4
  have c0_5 : u1.cell? ⟨B0, 5, none⟩ = some (.string D) := K0.cell 5
  have c0_6 : u1.cell? ⟨B0, 6, none⟩ = some (.bool g) := K0.cell 6
  have c0_7 : u1.cell? ⟨B0, 7, none⟩ = some (.string E) := K0.cell 7
  have c1_0 : u1.cell? ⟨B1, 0, none⟩ = some (.string A) := K1.cell 0
  have c1_1 : u1.cell? ⟨B1, 1, none⟩ = some (.string B) := K1.cell 1
  have l0 := K0.lt
  have l1 := K1.lt
  go_wp2_with fail
  refine (HW.out _).mono ?_
  rintro e u2 ⟨rfl, hb⟩
  replace HV := HV.trans (hb.mono HV.size)
  replace K0 := K0.below hb
  replace K1 := K1.below hb
  clear hb
  clear c0_0 c0_1 c0_2 c0_3 c0_4 c0_5 c0_6 c0_7 c1_0 c1_1 l0 l1
  have c0_0 : u2.cell? ⟨B0, 0, none⟩ = some (.string A) := K0.cell 0
  have c0_1 : u2.cell? ⟨B0, 1, none⟩ = some (.string B) := K0.cell 1
  have c0_2 : u2.cell? ⟨B0, 2, none⟩ = some (.string S) := K0.cell 2
  have c0_3 : u2.cell? ⟨B0, 3, none⟩ = some (.string T) := K0.cell 3
  have c0_4 : u2.cell? ⟨B0, 4, none⟩ = some (.bool f) := K0.cell 4
  have c0_5 : u2.cell? ⟨B0, 5, none⟩ = some (.string D) := K0.cell 5
  have c0_6 : u2.cell? ⟨B0, 6, none⟩ = some (.bool g) := K0.cell 6
  have c0_7 : u2.cell? ⟨B0, 7, none⟩ = some (.string E) := K0.cell 7
  have c1_0 : u2.cell? ⟨B1, 0, none⟩ = some (.string A) := K1.cell 0
  have c1_1 : u2.cell? ⟨B1, 1, none⟩ = some (.string B) := K1.cell 1
  have l0 := K0.lt
  have l1 := K1.lt
  go_wp2
  go_ret
  exact ⟨rfl, HV⟩
set_option maxHeartbeats 4000000 in
set_option maxRecDepth 100000 in
theorem glws_no1 (A B S T D E : ByteArray) (f g : Bool) (w : World) (HFW : ∀ (W : World) (gb : Nat), W.cell? ⟨gb, 0, none⟩ = some (.string S) → W.cell? ⟨gb, 1, none⟩ = some (.string T) → W.cell? ⟨gb, 2, none⟩ = some (.string D) → W.cell? ⟨gb, 3, none⟩ = some (.string E) → gb < W.heap.size → Calls Try.prog 5 #[.agg #[.string A, .string B], .slice (some ⟨gb, 0, none⟩) 4 4] W (Made W (.bool true))) (h0 : ∀ W, Calls Try.prog 6 #[.agg #[.bool f, .string D]] W (Made W (.bool false))) :
    Calls Try.prog 3 #[.agg #[.string A, .string B, .string S, .string T, .bool f, .string D, .bool g, .string E]] w (Made w (.bool true)) := by
  have HF := Lib.hid HFW
  have HW := Lib.hid awake9
  have HVD := Lib.hid h0
  clear HFW h0
  go_enter Try.func3, Try.ntmps3
  go_wp2
  go_region
  go_wp2_with fail
  obtain ⟨B0, e0⟩ : ∃ x, x = w.heap.size := ⟨_, rfl⟩
  obtain ⟨B1, e1⟩ : ∃ x, x = w.heap.size + 1 := ⟨_, rfl⟩
  obtain ⟨BF, eF⟩ : ∃ x, x = w.heap.size + 1 + 1 := ⟨_, rfl⟩
  obtain ⟨W1, hW1⟩ : ∃ W1, W1 = (((w.alloc (.cells #[.string A, .string B, .string S, .string T, .bool f, .string D, .bool g, .string E] 28)).alloc (.cells #[.string A, .string B] 24)).alloc (.cells #[.string S, .string T, .string D, .string E] 22)).drew := ⟨_, rfl⟩
  have K0 : Bk W1 B0 #[.string A, .string B, .string S, .string T, .bool f, .string D, .bool g, .string E] 28 := by rw [hW1, e0]; exact (((Bk.new _ _ _).alloc _).alloc _).drew
  have K1 : Bk W1 B1 #[.string A, .string B] 24 := by rw [hW1, e1]; exact ((Bk.new1 _ _ _ _).alloc _).drew
  have KF : Bk W1 BF #[.string S, .string T, .string D, .string E] 22 := by
    rw [hW1, eF]
    have h := Bk.new1 (w.alloc (.cells #[.string A, .string B, .string S, .string T, .bool f, .string D, .bool g, .string E] 28)) (.cells #[.string A, .string B] 24) #[.string S, .string T, .string D, .string E] 22
    simp only [World.size_alloc] at h
    exact h.drew
  have HV : Below w.heap.size w W1 := by
    rw [hW1]
    exact ((((Below.refl _ w).alloc (Nat.le_refl _) _).alloc (by simp) _).alloc (by simp; omega) _).drew
  rw [← eF, ← e1, ← e0, ← hW1]
  clear e0 e1 eF hW1
  refine (HF.out _ _ (KF.cell 0) (KF.cell 1) (KF.cell 2) (KF.cell 3) KF.lt).mono ?_
  rintro e u1 ⟨rfl, hb⟩
  clear KF
  replace HV := HV.trans (hb.mono HV.size)
  replace K0 := K0.below hb
  replace K1 := K1.below hb
  clear hb
  have c0_0 : u1.cell? ⟨B0, 0, none⟩ = some (.string A) := K0.cell 0
  have c0_1 : u1.cell? ⟨B0, 1, none⟩ = some (.string B) := K0.cell 1
  have c0_2 : u1.cell? ⟨B0, 2, none⟩ = some (.string S) := K0.cell 2
  have c0_3 : u1.cell? ⟨B0, 3, none⟩ = some (.string T) := K0.cell 3
  have c0_4 : u1.cell? ⟨B0, 4, none⟩ = some (.bool f) := K0.cell 4
  have c0_5 : u1.cell? ⟨B0, 5, none⟩ = some (.string D) := K0.cell 5
  have c0_6 : u1.cell? ⟨B0, 6, none⟩ = some (.bool g) := K0.cell 6
  have c0_7 : u1.cell? ⟨B0, 7, none⟩ = some (.string E) := K0.cell 7
  have c1_0 : u1.cell? ⟨B1, 0, none⟩ = some (.string A) := K1.cell 0
  have c1_1 : u1.cell? ⟨B1, 1, none⟩ = some (.string B) := K1.cell 1
  have l0 := K0.lt
  have l1 := K1.lt
  go_wp2_with fail
  refine (HVD.out _).mono ?_
  rintro e u2 ⟨rfl, hb⟩
  replace HV := HV.trans (hb.mono HV.size)
  replace K0 := K0.below hb
  replace K1 := K1.below hb
  clear hb
  clear c0_0 c0_1 c0_2 c0_3 c0_4 c0_5 c0_6 c0_7 c1_0 c1_1 l0 l1
  have c0_0 : u2.cell? ⟨B0, 0, none⟩ = some (.string A) := K0.cell 0
  have c0_1 : u2.cell? ⟨B0, 1, none⟩ = some (.string B) := K0.cell 1
  have c0_2 : u2.cell? ⟨B0, 2, none⟩ = some (.string S) := K0.cell 2
  have c0_3 : u2.cell? ⟨B0, 3, none⟩ = some (.string T) := K0.cell 3
  have c0_4 : u2.cell? ⟨B0, 4, none⟩ = some (.bool f) := K0.cell 4
  have c0_5 : u2.cell? ⟨B0, 5, none⟩ = some (.string D) := K0.cell 5
  have c0_6 : u2.cell? ⟨B0, 6, none⟩ = some (.bool g) := K0.cell 6
  have c0_7 : u2.cell? ⟨B0, 7, none⟩ = some (.string E) := K0.cell 7
  have c1_0 : u2.cell? ⟨B1, 0, none⟩ = some (.string A) := K1.cell 0
  have c1_1 : u2.cell? ⟨B1, 1, none⟩ = some (.string B) := K1.cell 1
  have l0 := K0.lt
  have l1 := K1.lt
  go_wp2_with fail
  refine (HW.out _).mono ?_
  rintro e u3 ⟨rfl, hb⟩
  replace HV := HV.trans (hb.mono HV.size)
  replace K0 := K0.below hb
  replace K1 := K1.below hb
  clear hb
  clear c0_0 c0_1 c0_2 c0_3 c0_4 c0_5 c0_6 c0_7 c1_0 c1_1 l0 l1
  have c0_0 : u3.cell? ⟨B0, 0, none⟩ = some (.string A) := K0.cell 0
  have c0_1 : u3.cell? ⟨B0, 1, none⟩ = some (.string B) := K0.cell 1
  have c0_2 : u3.cell? ⟨B0, 2, none⟩ = some (.string S) := K0.cell 2
  have c0_3 : u3.cell? ⟨B0, 3, none⟩ = some (.string T) := K0.cell 3
  have c0_4 : u3.cell? ⟨B0, 4, none⟩ = some (.bool f) := K0.cell 4
  have c0_5 : u3.cell? ⟨B0, 5, none⟩ = some (.string D) := K0.cell 5
  have c0_6 : u3.cell? ⟨B0, 6, none⟩ = some (.bool g) := K0.cell 6
  have c0_7 : u3.cell? ⟨B0, 7, none⟩ = some (.string E) := K0.cell 7
  have c1_0 : u3.cell? ⟨B1, 0, none⟩ = some (.string A) := K1.cell 0
  have c1_1 : u3.cell? ⟨B1, 1, none⟩ = some (.string B) := K1.cell 1
  have l0 := K0.lt
  have l1 := K1.lt
  go_wp2
  go_ret
  exact ⟨rfl, HV⟩
set_option maxHeartbeats 4000000 in
set_option maxRecDepth 100000 in
theorem glws_no2 (A B S T D E : ByteArray) (f g : Bool) (w : World) (HFW : ∀ (W : World) (gb : Nat), W.cell? ⟨gb, 0, none⟩ = some (.string S) → W.cell? ⟨gb, 1, none⟩ = some (.string T) → W.cell? ⟨gb, 2, none⟩ = some (.string D) → W.cell? ⟨gb, 3, none⟩ = some (.string E) → gb < W.heap.size → Calls Try.prog 5 #[.agg #[.string A, .string B], .slice (some ⟨gb, 0, none⟩) 4 4] W (Made W (.bool true))) (h0 : ∀ W, Calls Try.prog 6 #[.agg #[.bool f, .string D]] W (Made W (.bool true))) (h1 : ∀ W, Calls Try.prog 6 #[.agg #[.bool g, .string E]] W (Made W (.bool false))) :
    Calls Try.prog 3 #[.agg #[.string A, .string B, .string S, .string T, .bool f, .string D, .bool g, .string E]] w (Made w (.bool true)) := by
  have HF := Lib.hid HFW
  have HW := Lib.hid awake9
  have HVD := Lib.hid h0
  have HVE := Lib.hid h1
  clear HFW h0 h1
  go_enter Try.func3, Try.ntmps3
  go_wp2
  go_region
  go_wp2_with fail
  obtain ⟨B0, e0⟩ : ∃ x, x = w.heap.size := ⟨_, rfl⟩
  obtain ⟨B1, e1⟩ : ∃ x, x = w.heap.size + 1 := ⟨_, rfl⟩
  obtain ⟨BF, eF⟩ : ∃ x, x = w.heap.size + 1 + 1 := ⟨_, rfl⟩
  obtain ⟨W1, hW1⟩ : ∃ W1, W1 = (((w.alloc (.cells #[.string A, .string B, .string S, .string T, .bool f, .string D, .bool g, .string E] 28)).alloc (.cells #[.string A, .string B] 24)).alloc (.cells #[.string S, .string T, .string D, .string E] 22)).drew := ⟨_, rfl⟩
  have K0 : Bk W1 B0 #[.string A, .string B, .string S, .string T, .bool f, .string D, .bool g, .string E] 28 := by rw [hW1, e0]; exact (((Bk.new _ _ _).alloc _).alloc _).drew
  have K1 : Bk W1 B1 #[.string A, .string B] 24 := by rw [hW1, e1]; exact ((Bk.new1 _ _ _ _).alloc _).drew
  have KF : Bk W1 BF #[.string S, .string T, .string D, .string E] 22 := by
    rw [hW1, eF]
    have h := Bk.new1 (w.alloc (.cells #[.string A, .string B, .string S, .string T, .bool f, .string D, .bool g, .string E] 28)) (.cells #[.string A, .string B] 24) #[.string S, .string T, .string D, .string E] 22
    simp only [World.size_alloc] at h
    exact h.drew
  have HV : Below w.heap.size w W1 := by
    rw [hW1]
    exact ((((Below.refl _ w).alloc (Nat.le_refl _) _).alloc (by simp) _).alloc (by simp; omega) _).drew
  rw [← eF, ← e1, ← e0, ← hW1]
  clear e0 e1 eF hW1
  refine (HF.out _ _ (KF.cell 0) (KF.cell 1) (KF.cell 2) (KF.cell 3) KF.lt).mono ?_
  rintro e u1 ⟨rfl, hb⟩
  clear KF
  replace HV := HV.trans (hb.mono HV.size)
  replace K0 := K0.below hb
  replace K1 := K1.below hb
  clear hb
  have c0_0 : u1.cell? ⟨B0, 0, none⟩ = some (.string A) := K0.cell 0
  have c0_1 : u1.cell? ⟨B0, 1, none⟩ = some (.string B) := K0.cell 1
  have c0_2 : u1.cell? ⟨B0, 2, none⟩ = some (.string S) := K0.cell 2
  have c0_3 : u1.cell? ⟨B0, 3, none⟩ = some (.string T) := K0.cell 3
  have c0_4 : u1.cell? ⟨B0, 4, none⟩ = some (.bool f) := K0.cell 4
  have c0_5 : u1.cell? ⟨B0, 5, none⟩ = some (.string D) := K0.cell 5
  have c0_6 : u1.cell? ⟨B0, 6, none⟩ = some (.bool g) := K0.cell 6
  have c0_7 : u1.cell? ⟨B0, 7, none⟩ = some (.string E) := K0.cell 7
  have c1_0 : u1.cell? ⟨B1, 0, none⟩ = some (.string A) := K1.cell 0
  have c1_1 : u1.cell? ⟨B1, 1, none⟩ = some (.string B) := K1.cell 1
  have l0 := K0.lt
  have l1 := K1.lt
  go_wp2_with fail
  refine (HVD.out _).mono ?_
  rintro e u2 ⟨rfl, hb⟩
  replace HV := HV.trans (hb.mono HV.size)
  replace K0 := K0.below hb
  replace K1 := K1.below hb
  clear hb
  clear c0_0 c0_1 c0_2 c0_3 c0_4 c0_5 c0_6 c0_7 c1_0 c1_1 l0 l1
  have c0_0 : u2.cell? ⟨B0, 0, none⟩ = some (.string A) := K0.cell 0
  have c0_1 : u2.cell? ⟨B0, 1, none⟩ = some (.string B) := K0.cell 1
  have c0_2 : u2.cell? ⟨B0, 2, none⟩ = some (.string S) := K0.cell 2
  have c0_3 : u2.cell? ⟨B0, 3, none⟩ = some (.string T) := K0.cell 3
  have c0_4 : u2.cell? ⟨B0, 4, none⟩ = some (.bool f) := K0.cell 4
  have c0_5 : u2.cell? ⟨B0, 5, none⟩ = some (.string D) := K0.cell 5
  have c0_6 : u2.cell? ⟨B0, 6, none⟩ = some (.bool g) := K0.cell 6
  have c0_7 : u2.cell? ⟨B0, 7, none⟩ = some (.string E) := K0.cell 7
  have c1_0 : u2.cell? ⟨B1, 0, none⟩ = some (.string A) := K1.cell 0
  have c1_1 : u2.cell? ⟨B1, 1, none⟩ = some (.string B) := K1.cell 1
  have l0 := K0.lt
  have l1 := K1.lt
  go_wp2_with fail
  refine (HVE.out _).mono ?_
  rintro e u3 ⟨rfl, hb⟩
  replace HV := HV.trans (hb.mono HV.size)
  replace K0 := K0.below hb
  replace K1 := K1.below hb
  clear hb
  clear c0_0 c0_1 c0_2 c0_3 c0_4 c0_5 c0_6 c0_7 c1_0 c1_1 l0 l1
  have c0_0 : u3.cell? ⟨B0, 0, none⟩ = some (.string A) := K0.cell 0
  have c0_1 : u3.cell? ⟨B0, 1, none⟩ = some (.string B) := K0.cell 1
  have c0_2 : u3.cell? ⟨B0, 2, none⟩ = some (.string S) := K0.cell 2
  have c0_3 : u3.cell? ⟨B0, 3, none⟩ = some (.string T) := K0.cell 3
  have c0_4 : u3.cell? ⟨B0, 4, none⟩ = some (.bool f) := K0.cell 4
  have c0_5 : u3.cell? ⟨B0, 5, none⟩ = some (.string D) := K0.cell 5
  have c0_6 : u3.cell? ⟨B0, 6, none⟩ = some (.bool g) := K0.cell 6
  have c0_7 : u3.cell? ⟨B0, 7, none⟩ = some (.string E) := K0.cell 7
  have c1_0 : u3.cell? ⟨B1, 0, none⟩ = some (.string A) := K1.cell 0
  have c1_1 : u3.cell? ⟨B1, 1, none⟩ = some (.string B) := K1.cell 1
  have l0 := K0.lt
  have l1 := K1.lt
  go_wp2_with fail
  refine (HW.out _).mono ?_
  rintro e u4 ⟨rfl, hb⟩
  replace HV := HV.trans (hb.mono HV.size)
  replace K0 := K0.below hb
  replace K1 := K1.below hb
  clear hb
  clear c0_0 c0_1 c0_2 c0_3 c0_4 c0_5 c0_6 c0_7 c1_0 c1_1 l0 l1
  have c0_0 : u4.cell? ⟨B0, 0, none⟩ = some (.string A) := K0.cell 0
  have c0_1 : u4.cell? ⟨B0, 1, none⟩ = some (.string B) := K0.cell 1
  have c0_2 : u4.cell? ⟨B0, 2, none⟩ = some (.string S) := K0.cell 2
  have c0_3 : u4.cell? ⟨B0, 3, none⟩ = some (.string T) := K0.cell 3
  have c0_4 : u4.cell? ⟨B0, 4, none⟩ = some (.bool f) := K0.cell 4
  have c0_5 : u4.cell? ⟨B0, 5, none⟩ = some (.string D) := K0.cell 5
  have c0_6 : u4.cell? ⟨B0, 6, none⟩ = some (.bool g) := K0.cell 6
  have c0_7 : u4.cell? ⟨B0, 7, none⟩ = some (.string E) := K0.cell 7
  have c1_0 : u4.cell? ⟨B1, 0, none⟩ = some (.string A) := K1.cell 0
  have c1_1 : u4.cell? ⟨B1, 1, none⟩ = some (.string B) := K1.cell 1
  have l0 := K0.lt
  have l1 := K1.lt
  go_wp2
  go_ret
  exact ⟨rfl, HV⟩
set_option maxHeartbeats 4000000 in
set_option maxRecDepth 100000 in
theorem glws_no3 (A B S T D E : ByteArray) (f g : Bool) (w : World) (HFW : ∀ (W : World) (gb : Nat), W.cell? ⟨gb, 0, none⟩ = some (.string S) → W.cell? ⟨gb, 1, none⟩ = some (.string T) → W.cell? ⟨gb, 2, none⟩ = some (.string D) → W.cell? ⟨gb, 3, none⟩ = some (.string E) → gb < W.heap.size → Calls Try.prog 5 #[.agg #[.string A, .string B], .slice (some ⟨gb, 0, none⟩) 4 4] W (Made W (.bool true))) (h0 : ∀ W, Calls Try.prog 6 #[.agg #[.bool f, .string D]] W (Made W (.bool true))) (h1 : ∀ W, Calls Try.prog 6 #[.agg #[.bool g, .string E]] W (Made W (.bool true))) (h2 : ∀ W, Calls Try.prog 7 #[.agg #[.string A, .string B], .string S] W (Made W (.bool false))) :
    Calls Try.prog 3 #[.agg #[.string A, .string B, .string S, .string T, .bool f, .string D, .bool g, .string E]] w (Made w (.bool true)) := by
  have HF := Lib.hid HFW
  have HW := Lib.hid awake9
  have HVD := Lib.hid h0
  have HVE := Lib.hid h1
  have HHa := Lib.hid h2
  clear HFW h0 h1 h2
  go_enter Try.func3, Try.ntmps3
  go_wp2
  go_region
  go_wp2_with fail
  obtain ⟨B0, e0⟩ : ∃ x, x = w.heap.size := ⟨_, rfl⟩
  obtain ⟨B1, e1⟩ : ∃ x, x = w.heap.size + 1 := ⟨_, rfl⟩
  obtain ⟨BF, eF⟩ : ∃ x, x = w.heap.size + 1 + 1 := ⟨_, rfl⟩
  obtain ⟨W1, hW1⟩ : ∃ W1, W1 = (((w.alloc (.cells #[.string A, .string B, .string S, .string T, .bool f, .string D, .bool g, .string E] 28)).alloc (.cells #[.string A, .string B] 24)).alloc (.cells #[.string S, .string T, .string D, .string E] 22)).drew := ⟨_, rfl⟩
  have K0 : Bk W1 B0 #[.string A, .string B, .string S, .string T, .bool f, .string D, .bool g, .string E] 28 := by rw [hW1, e0]; exact (((Bk.new _ _ _).alloc _).alloc _).drew
  have K1 : Bk W1 B1 #[.string A, .string B] 24 := by rw [hW1, e1]; exact ((Bk.new1 _ _ _ _).alloc _).drew
  have KF : Bk W1 BF #[.string S, .string T, .string D, .string E] 22 := by
    rw [hW1, eF]
    have h := Bk.new1 (w.alloc (.cells #[.string A, .string B, .string S, .string T, .bool f, .string D, .bool g, .string E] 28)) (.cells #[.string A, .string B] 24) #[.string S, .string T, .string D, .string E] 22
    simp only [World.size_alloc] at h
    exact h.drew
  have HV : Below w.heap.size w W1 := by
    rw [hW1]
    exact ((((Below.refl _ w).alloc (Nat.le_refl _) _).alloc (by simp) _).alloc (by simp; omega) _).drew
  rw [← eF, ← e1, ← e0, ← hW1]
  clear e0 e1 eF hW1
  refine (HF.out _ _ (KF.cell 0) (KF.cell 1) (KF.cell 2) (KF.cell 3) KF.lt).mono ?_
  rintro e u1 ⟨rfl, hb⟩
  clear KF
  replace HV := HV.trans (hb.mono HV.size)
  replace K0 := K0.below hb
  replace K1 := K1.below hb
  clear hb
  have c0_0 : u1.cell? ⟨B0, 0, none⟩ = some (.string A) := K0.cell 0
  have c0_1 : u1.cell? ⟨B0, 1, none⟩ = some (.string B) := K0.cell 1
  have c0_2 : u1.cell? ⟨B0, 2, none⟩ = some (.string S) := K0.cell 2
  have c0_3 : u1.cell? ⟨B0, 3, none⟩ = some (.string T) := K0.cell 3
  have c0_4 : u1.cell? ⟨B0, 4, none⟩ = some (.bool f) := K0.cell 4
  have c0_5 : u1.cell? ⟨B0, 5, none⟩ = some (.string D) := K0.cell 5
  have c0_6 : u1.cell? ⟨B0, 6, none⟩ = some (.bool g) := K0.cell 6
  have c0_7 : u1.cell? ⟨B0, 7, none⟩ = some (.string E) := K0.cell 7
  have c1_0 : u1.cell? ⟨B1, 0, none⟩ = some (.string A) := K1.cell 0
  have c1_1 : u1.cell? ⟨B1, 1, none⟩ = some (.string B) := K1.cell 1
  have l0 := K0.lt
  have l1 := K1.lt
  go_wp2_with fail
  refine (HVD.out _).mono ?_
  rintro e u2 ⟨rfl, hb⟩
  replace HV := HV.trans (hb.mono HV.size)
  replace K0 := K0.below hb
  replace K1 := K1.below hb
  clear hb
  clear c0_0 c0_1 c0_2 c0_3 c0_4 c0_5 c0_6 c0_7 c1_0 c1_1 l0 l1
  have c0_0 : u2.cell? ⟨B0, 0, none⟩ = some (.string A) := K0.cell 0
  have c0_1 : u2.cell? ⟨B0, 1, none⟩ = some (.string B) := K0.cell 1
  have c0_2 : u2.cell? ⟨B0, 2, none⟩ = some (.string S) := K0.cell 2
  have c0_3 : u2.cell? ⟨B0, 3, none⟩ = some (.string T) := K0.cell 3
  have c0_4 : u2.cell? ⟨B0, 4, none⟩ = some (.bool f) := K0.cell 4
  have c0_5 : u2.cell? ⟨B0, 5, none⟩ = some (.string D) := K0.cell 5
  have c0_6 : u2.cell? ⟨B0, 6, none⟩ = some (.bool g) := K0.cell 6
  have c0_7 : u2.cell? ⟨B0, 7, none⟩ = some (.string E) := K0.cell 7
  have c1_0 : u2.cell? ⟨B1, 0, none⟩ = some (.string A) := K1.cell 0
  have c1_1 : u2.cell? ⟨B1, 1, none⟩ = some (.string B) := K1.cell 1
  have l0 := K0.lt
  have l1 := K1.lt
  go_wp2_with fail
  refine (HVE.out _).mono ?_
  rintro e u3 ⟨rfl, hb⟩
  replace HV := HV.trans (hb.mono HV.size)
  replace K0 := K0.below hb
  replace K1 := K1.below hb
  clear hb
  clear c0_0 c0_1 c0_2 c0_3 c0_4 c0_5 c0_6 c0_7 c1_0 c1_1 l0 l1
  have c0_0 : u3.cell? ⟨B0, 0, none⟩ = some (.string A) := K0.cell 0
  have c0_1 : u3.cell? ⟨B0, 1, none⟩ = some (.string B) := K0.cell 1
  have c0_2 : u3.cell? ⟨B0, 2, none⟩ = some (.string S) := K0.cell 2
  have c0_3 : u3.cell? ⟨B0, 3, none⟩ = some (.string T) := K0.cell 3
  have c0_4 : u3.cell? ⟨B0, 4, none⟩ = some (.bool f) := K0.cell 4
  have c0_5 : u3.cell? ⟨B0, 5, none⟩ = some (.string D) := K0.cell 5
  have c0_6 : u3.cell? ⟨B0, 6, none⟩ = some (.bool g) := K0.cell 6
  have c0_7 : u3.cell? ⟨B0, 7, none⟩ = some (.string E) := K0.cell 7
  have c1_0 : u3.cell? ⟨B1, 0, none⟩ = some (.string A) := K1.cell 0
  have c1_1 : u3.cell? ⟨B1, 1, none⟩ = some (.string B) := K1.cell 1
  have l0 := K0.lt
  have l1 := K1.lt
  go_wp2_with fail
  refine (HHa.out _).mono ?_
  rintro e u4 ⟨rfl, hb⟩
  replace HV := HV.trans (hb.mono HV.size)
  replace K0 := K0.below hb
  replace K1 := K1.below hb
  clear hb
  clear c0_0 c0_1 c0_2 c0_3 c0_4 c0_5 c0_6 c0_7 c1_0 c1_1 l0 l1
  have c0_0 : u4.cell? ⟨B0, 0, none⟩ = some (.string A) := K0.cell 0
  have c0_1 : u4.cell? ⟨B0, 1, none⟩ = some (.string B) := K0.cell 1
  have c0_2 : u4.cell? ⟨B0, 2, none⟩ = some (.string S) := K0.cell 2
  have c0_3 : u4.cell? ⟨B0, 3, none⟩ = some (.string T) := K0.cell 3
  have c0_4 : u4.cell? ⟨B0, 4, none⟩ = some (.bool f) := K0.cell 4
  have c0_5 : u4.cell? ⟨B0, 5, none⟩ = some (.string D) := K0.cell 5
  have c0_6 : u4.cell? ⟨B0, 6, none⟩ = some (.bool g) := K0.cell 6
  have c0_7 : u4.cell? ⟨B0, 7, none⟩ = some (.string E) := K0.cell 7
  have c1_0 : u4.cell? ⟨B1, 0, none⟩ = some (.string A) := K1.cell 0
  have c1_1 : u4.cell? ⟨B1, 1, none⟩ = some (.string B) := K1.cell 1
  have l0 := K0.lt
  have l1 := K1.lt
  go_wp2_with fail
  refine (HW.out _).mono ?_
  rintro e u5 ⟨rfl, hb⟩
  replace HV := HV.trans (hb.mono HV.size)
  replace K0 := K0.below hb
  replace K1 := K1.below hb
  clear hb
  clear c0_0 c0_1 c0_2 c0_3 c0_4 c0_5 c0_6 c0_7 c1_0 c1_1 l0 l1
  have c0_0 : u5.cell? ⟨B0, 0, none⟩ = some (.string A) := K0.cell 0
  have c0_1 : u5.cell? ⟨B0, 1, none⟩ = some (.string B) := K0.cell 1
  have c0_2 : u5.cell? ⟨B0, 2, none⟩ = some (.string S) := K0.cell 2
  have c0_3 : u5.cell? ⟨B0, 3, none⟩ = some (.string T) := K0.cell 3
  have c0_4 : u5.cell? ⟨B0, 4, none⟩ = some (.bool f) := K0.cell 4
  have c0_5 : u5.cell? ⟨B0, 5, none⟩ = some (.string D) := K0.cell 5
  have c0_6 : u5.cell? ⟨B0, 6, none⟩ = some (.bool g) := K0.cell 6
  have c0_7 : u5.cell? ⟨B0, 7, none⟩ = some (.string E) := K0.cell 7
  have c1_0 : u5.cell? ⟨B1, 0, none⟩ = some (.string A) := K1.cell 0
  have c1_1 : u5.cell? ⟨B1, 1, none⟩ = some (.string B) := K1.cell 1
  have l0 := K0.lt
  have l1 := K1.lt
  go_wp2
  go_ret
  exact ⟨rfl, HV⟩
set_option maxHeartbeats 4000000 in
set_option maxRecDepth 100000 in
theorem glws_no4 (A B S T D E : ByteArray) (f g : Bool) (w : World) (HFW : ∀ (W : World) (gb : Nat), W.cell? ⟨gb, 0, none⟩ = some (.string S) → W.cell? ⟨gb, 1, none⟩ = some (.string T) → W.cell? ⟨gb, 2, none⟩ = some (.string D) → W.cell? ⟨gb, 3, none⟩ = some (.string E) → gb < W.heap.size → Calls Try.prog 5 #[.agg #[.string A, .string B], .slice (some ⟨gb, 0, none⟩) 4 4] W (Made W (.bool true))) (h0 : ∀ W, Calls Try.prog 6 #[.agg #[.bool f, .string D]] W (Made W (.bool true))) (h1 : ∀ W, Calls Try.prog 6 #[.agg #[.bool g, .string E]] W (Made W (.bool true))) (h2 : ∀ W, Calls Try.prog 7 #[.agg #[.string A, .string B], .string S] W (Made W (.bool true))) (h3 : ∀ W, Calls Try.prog 7 #[.agg #[.string A, .string B], .string T] W (Made W (.bool false))) :
    Calls Try.prog 3 #[.agg #[.string A, .string B, .string S, .string T, .bool f, .string D, .bool g, .string E]] w (Made w (.bool true)) := by
  have HF := Lib.hid HFW
  have HW := Lib.hid awake9
  have HVD := Lib.hid h0
  have HVE := Lib.hid h1
  have HHa := Lib.hid h2
  have HHb := Lib.hid h3
  clear HFW h0 h1 h2 h3
  go_enter Try.func3, Try.ntmps3
  go_wp2
  go_region
  go_wp2_with fail
  obtain ⟨B0, e0⟩ : ∃ x, x = w.heap.size := ⟨_, rfl⟩
  obtain ⟨B1, e1⟩ : ∃ x, x = w.heap.size + 1 := ⟨_, rfl⟩
  obtain ⟨BF, eF⟩ : ∃ x, x = w.heap.size + 1 + 1 := ⟨_, rfl⟩
  obtain ⟨W1, hW1⟩ : ∃ W1, W1 = (((w.alloc (.cells #[.string A, .string B, .string S, .string T, .bool f, .string D, .bool g, .string E] 28)).alloc (.cells #[.string A, .string B] 24)).alloc (.cells #[.string S, .string T, .string D, .string E] 22)).drew := ⟨_, rfl⟩
  have K0 : Bk W1 B0 #[.string A, .string B, .string S, .string T, .bool f, .string D, .bool g, .string E] 28 := by rw [hW1, e0]; exact (((Bk.new _ _ _).alloc _).alloc _).drew
  have K1 : Bk W1 B1 #[.string A, .string B] 24 := by rw [hW1, e1]; exact ((Bk.new1 _ _ _ _).alloc _).drew
  have KF : Bk W1 BF #[.string S, .string T, .string D, .string E] 22 := by
    rw [hW1, eF]
    have h := Bk.new1 (w.alloc (.cells #[.string A, .string B, .string S, .string T, .bool f, .string D, .bool g, .string E] 28)) (.cells #[.string A, .string B] 24) #[.string S, .string T, .string D, .string E] 22
    simp only [World.size_alloc] at h
    exact h.drew
  have HV : Below w.heap.size w W1 := by
    rw [hW1]
    exact ((((Below.refl _ w).alloc (Nat.le_refl _) _).alloc (by simp) _).alloc (by simp; omega) _).drew
  rw [← eF, ← e1, ← e0, ← hW1]
  clear e0 e1 eF hW1
  refine (HF.out _ _ (KF.cell 0) (KF.cell 1) (KF.cell 2) (KF.cell 3) KF.lt).mono ?_
  rintro e u1 ⟨rfl, hb⟩
  clear KF
  replace HV := HV.trans (hb.mono HV.size)
  replace K0 := K0.below hb
  replace K1 := K1.below hb
  clear hb
  have c0_0 : u1.cell? ⟨B0, 0, none⟩ = some (.string A) := K0.cell 0
  have c0_1 : u1.cell? ⟨B0, 1, none⟩ = some (.string B) := K0.cell 1
  have c0_2 : u1.cell? ⟨B0, 2, none⟩ = some (.string S) := K0.cell 2
  have c0_3 : u1.cell? ⟨B0, 3, none⟩ = some (.string T) := K0.cell 3
  have c0_4 : u1.cell? ⟨B0, 4, none⟩ = some (.bool f) := K0.cell 4
  have c0_5 : u1.cell? ⟨B0, 5, none⟩ = some (.string D) := K0.cell 5
  have c0_6 : u1.cell? ⟨B0, 6, none⟩ = some (.bool g) := K0.cell 6
  have c0_7 : u1.cell? ⟨B0, 7, none⟩ = some (.string E) := K0.cell 7
  have c1_0 : u1.cell? ⟨B1, 0, none⟩ = some (.string A) := K1.cell 0
  have c1_1 : u1.cell? ⟨B1, 1, none⟩ = some (.string B) := K1.cell 1
  have l0 := K0.lt
  have l1 := K1.lt
  go_wp2_with fail
  refine (HVD.out _).mono ?_
  rintro e u2 ⟨rfl, hb⟩
  replace HV := HV.trans (hb.mono HV.size)
  replace K0 := K0.below hb
  replace K1 := K1.below hb
  clear hb
  clear c0_0 c0_1 c0_2 c0_3 c0_4 c0_5 c0_6 c0_7 c1_0 c1_1 l0 l1
  have c0_0 : u2.cell? ⟨B0, 0, none⟩ = some (.string A) := K0.cell 0
  have c0_1 : u2.cell? ⟨B0, 1, none⟩ = some (.string B) := K0.cell 1
  have c0_2 : u2.cell? ⟨B0, 2, none⟩ = some (.string S) := K0.cell 2
  have c0_3 : u2.cell? ⟨B0, 3, none⟩ = some (.string T) := K0.cell 3
  have c0_4 : u2.cell? ⟨B0, 4, none⟩ = some (.bool f) := K0.cell 4
  have c0_5 : u2.cell? ⟨B0, 5, none⟩ = some (.string D) := K0.cell 5
  have c0_6 : u2.cell? ⟨B0, 6, none⟩ = some (.bool g) := K0.cell 6
  have c0_7 : u2.cell? ⟨B0, 7, none⟩ = some (.string E) := K0.cell 7
  have c1_0 : u2.cell? ⟨B1, 0, none⟩ = some (.string A) := K1.cell 0
  have c1_1 : u2.cell? ⟨B1, 1, none⟩ = some (.string B) := K1.cell 1
  have l0 := K0.lt
  have l1 := K1.lt
  go_wp2_with fail
  refine (HVE.out _).mono ?_
  rintro e u3 ⟨rfl, hb⟩
  replace HV := HV.trans (hb.mono HV.size)
  replace K0 := K0.below hb
  replace K1 := K1.below hb
  clear hb
  clear c0_0 c0_1 c0_2 c0_3 c0_4 c0_5 c0_6 c0_7 c1_0 c1_1 l0 l1
  have c0_0 : u3.cell? ⟨B0, 0, none⟩ = some (.string A) := K0.cell 0
  have c0_1 : u3.cell? ⟨B0, 1, none⟩ = some (.string B) := K0.cell 1
  have c0_2 : u3.cell? ⟨B0, 2, none⟩ = some (.string S) := K0.cell 2
  have c0_3 : u3.cell? ⟨B0, 3, none⟩ = some (.string T) := K0.cell 3
  have c0_4 : u3.cell? ⟨B0, 4, none⟩ = some (.bool f) := K0.cell 4
  have c0_5 : u3.cell? ⟨B0, 5, none⟩ = some (.string D) := K0.cell 5
  have c0_6 : u3.cell? ⟨B0, 6, none⟩ = some (.bool g) := K0.cell 6
  have c0_7 : u3.cell? ⟨B0, 7, none⟩ = some (.string E) := K0.cell 7
  have c1_0 : u3.cell? ⟨B1, 0, none⟩ = some (.string A) := K1.cell 0
  have c1_1 : u3.cell? ⟨B1, 1, none⟩ = some (.string B) := K1.cell 1
  have l0 := K0.lt
  have l1 := K1.lt
  go_wp2_with fail
  refine (HHa.out _).mono ?_
  rintro e u4 ⟨rfl, hb⟩
  replace HV := HV.trans (hb.mono HV.size)
  replace K0 := K0.below hb
  replace K1 := K1.below hb
  clear hb
  clear c0_0 c0_1 c0_2 c0_3 c0_4 c0_5 c0_6 c0_7 c1_0 c1_1 l0 l1
  have c0_0 : u4.cell? ⟨B0, 0, none⟩ = some (.string A) := K0.cell 0
  have c0_1 : u4.cell? ⟨B0, 1, none⟩ = some (.string B) := K0.cell 1
  have c0_2 : u4.cell? ⟨B0, 2, none⟩ = some (.string S) := K0.cell 2
  have c0_3 : u4.cell? ⟨B0, 3, none⟩ = some (.string T) := K0.cell 3
  have c0_4 : u4.cell? ⟨B0, 4, none⟩ = some (.bool f) := K0.cell 4
  have c0_5 : u4.cell? ⟨B0, 5, none⟩ = some (.string D) := K0.cell 5
  have c0_6 : u4.cell? ⟨B0, 6, none⟩ = some (.bool g) := K0.cell 6
  have c0_7 : u4.cell? ⟨B0, 7, none⟩ = some (.string E) := K0.cell 7
  have c1_0 : u4.cell? ⟨B1, 0, none⟩ = some (.string A) := K1.cell 0
  have c1_1 : u4.cell? ⟨B1, 1, none⟩ = some (.string B) := K1.cell 1
  have l0 := K0.lt
  have l1 := K1.lt
  go_wp2_with fail
  refine (HHb.out _).mono ?_
  rintro e u5 ⟨rfl, hb⟩
  replace HV := HV.trans (hb.mono HV.size)
  replace K0 := K0.below hb
  replace K1 := K1.below hb
  clear hb
  clear c0_0 c0_1 c0_2 c0_3 c0_4 c0_5 c0_6 c0_7 c1_0 c1_1 l0 l1
  have c0_0 : u5.cell? ⟨B0, 0, none⟩ = some (.string A) := K0.cell 0
  have c0_1 : u5.cell? ⟨B0, 1, none⟩ = some (.string B) := K0.cell 1
  have c0_2 : u5.cell? ⟨B0, 2, none⟩ = some (.string S) := K0.cell 2
  have c0_3 : u5.cell? ⟨B0, 3, none⟩ = some (.string T) := K0.cell 3
  have c0_4 : u5.cell? ⟨B0, 4, none⟩ = some (.bool f) := K0.cell 4
  have c0_5 : u5.cell? ⟨B0, 5, none⟩ = some (.string D) := K0.cell 5
  have c0_6 : u5.cell? ⟨B0, 6, none⟩ = some (.bool g) := K0.cell 6
  have c0_7 : u5.cell? ⟨B0, 7, none⟩ = some (.string E) := K0.cell 7
  have c1_0 : u5.cell? ⟨B1, 0, none⟩ = some (.string A) := K1.cell 0
  have c1_1 : u5.cell? ⟨B1, 1, none⟩ = some (.string B) := K1.cell 1
  have l0 := K0.lt
  have l1 := K1.lt
  go_wp2_with fail
  refine (HW.out _).mono ?_
  rintro e u6 ⟨rfl, hb⟩
  replace HV := HV.trans (hb.mono HV.size)
  replace K0 := K0.below hb
  replace K1 := K1.below hb
  clear hb
  clear c0_0 c0_1 c0_2 c0_3 c0_4 c0_5 c0_6 c0_7 c1_0 c1_1 l0 l1
  have c0_0 : u6.cell? ⟨B0, 0, none⟩ = some (.string A) := K0.cell 0
  have c0_1 : u6.cell? ⟨B0, 1, none⟩ = some (.string B) := K0.cell 1
  have c0_2 : u6.cell? ⟨B0, 2, none⟩ = some (.string S) := K0.cell 2
  have c0_3 : u6.cell? ⟨B0, 3, none⟩ = some (.string T) := K0.cell 3
  have c0_4 : u6.cell? ⟨B0, 4, none⟩ = some (.bool f) := K0.cell 4
  have c0_5 : u6.cell? ⟨B0, 5, none⟩ = some (.string D) := K0.cell 5
  have c0_6 : u6.cell? ⟨B0, 6, none⟩ = some (.bool g) := K0.cell 6
  have c0_7 : u6.cell? ⟨B0, 7, none⟩ = some (.string E) := K0.cell 7
  have c1_0 : u6.cell? ⟨B1, 0, none⟩ = some (.string A) := K1.cell 0
  have c1_1 : u6.cell? ⟨B1, 1, none⟩ = some (.string B) := K1.cell 1
  have l0 := K0.lt
  have l1 := K1.lt
  go_wp2
  go_ret
  exact ⟨rfl, HV⟩
set_option maxHeartbeats 4000000 in
set_option maxRecDepth 100000 in
theorem glws_yes (A B S T D E P0 P1 P2 R U V Y Z : ByteArray) (f g h k : Bool) (w : World) (HFW : ∀ (W : World) (gb : Nat), W.cell? ⟨gb, 0, none⟩ = some (.string S) → W.cell? ⟨gb, 1, none⟩ = some (.string T) → W.cell? ⟨gb, 2, none⟩ = some (.string D) → W.cell? ⟨gb, 3, none⟩ = some (.string E) → gb < W.heap.size → Calls Try.prog 5 #[.agg #[.string A, .string B], .slice (some ⟨gb, 0, none⟩) 4 4] W (Made W (.bool true)))
    (h0 : ∀ W, Calls Try.prog 6 #[.agg #[.bool f, .string D]] W (Made W (.bool true)))
    (h1 : ∀ W, Calls Try.prog 6 #[.agg #[.bool g, .string E]] W (Made W (.bool true)))
    (h2 : ∀ W, Calls Try.prog 7 #[.agg #[.string A, .string B], .string S] W (Made W (.bool true)))
    (h3 : ∀ W, Calls Try.prog 7 #[.agg #[.string A, .string B], .string T] W (Made W (.bool true)))
    (h4 : ∀ W, Calls Try.prog 9 #[.agg #[.string A, .string B], .string S, .string T] W (Made W (.tuple #[.string P0, .int .i64 0])))
    (h5 : ∀ W, Calls Try.prog 9 #[.agg #[.string A, .string B], .string T, .string S] W (Made W (.tuple #[.string P0, .int .i64 0])))
    (h6 : ∀ W, Calls Try.prog 10 #[.agg #[.string A, .string B], .string S, .agg #[.bool f, .string D]] W (Made W (.tuple #[.string P1, .int .i64 0])))
    (h7 : ∀ W, Calls Try.prog 10 #[.agg #[.string A, .string B], .string S, .agg #[.bool g, .string E]] W (Made W (.tuple #[.string P2, .int .i64 0])))
    (h8 : ∀ W, Calls Try.prog 11 #[.agg #[.bool f, .string D], .agg #[.bool g, .string E]] W (Made W (.tuple #[.agg #[.bool h, .string U], .int .i64 0])))
    (h9 : ∀ W, Calls Try.prog 10 #[.agg #[.string A, .string B], .string S, .agg #[.bool h, .string U]] W (Made W (.tuple #[.string R, .int .i64 0])))
    (h10 : ∀ W, Calls Try.prog 9 #[.agg #[.string A, .string B], .string P1, .string P2] W (Made W (.tuple #[.string R, .int .i64 0])))
    (h11 : ∀ W, Calls Try.prog 12 #[.string B] W (Made W (.agg #[.bool k, .string V])))
    (h12 : ∀ W, Calls Try.prog 10 #[.agg #[.string A, .string B], .string P0, .agg #[.bool k, .string V]] W (Made W (.tuple #[.string ⟨#[1]⟩, .int .i64 0])))
    (h13 : ∀ W, Calls Try.prog 10 #[.agg #[.string A, .string B], .string P0, .agg #[.bool f, .string D]] W (Made W (.tuple #[.string Z, .int .i64 0])))
    (h14 : ∀ W, Calls Try.prog 10 #[.agg #[.string A, .string B], .string T, .agg #[.bool f, .string D]] W (Made W (.tuple #[.string Y, .int .i64 0])))
    (h15 : ∀ W, Calls Try.prog 9 #[.agg #[.string A, .string B], .string P1, .string Y] W (Made W (.tuple #[.string Z, .int .i64 0])))
    (h16 : ∀ W, Calls Try.prog 7 #[.agg #[.string A, .string B], .string P0] W (Made W (.bool true))) :
    Calls Try.prog 3 #[.agg #[.string A, .string B, .string S, .string T, .bool f, .string D, .bool g, .string E]] w (Made w (.bool true)) := by
  have HF := Lib.hid HFW
  have HW := Lib.hid awake9
  have HVD := Lib.hid h0
  have HVE := Lib.hid h1
  have HHa := Lib.hid h2
  have HHb := Lib.hid h3
  have HM1 := Lib.hid h4
  have HM2 := Lib.hid h5
  have HP1 := Lib.hid h6
  have HP2 := Lib.hid h7
  have HA := Lib.hid h8
  have HP3 := Lib.hid h9
  have HM3 := Lib.hid h10
  have HFr := Lib.hid h11
  have HP4 := Lib.hid h12
  have HP5 := Lib.hid h13
  have HP6 := Lib.hid h14
  have HM4 := Lib.hid h15
  have HH := Lib.hid h16
  clear HFW h0 h1 h2 h3 h4 h5 h6 h7 h8 h9 h10 h11 h12 h13 h14 h15 h16
  go_enter Try.func3, Try.ntmps3
  go_wp2
  go_region
  go_wp2_with fail
  obtain ⟨B0, e0⟩ : ∃ x, x = w.heap.size := ⟨_, rfl⟩
  obtain ⟨B1, e1⟩ : ∃ x, x = w.heap.size + 1 := ⟨_, rfl⟩
  obtain ⟨BF, eF⟩ : ∃ x, x = w.heap.size + 1 + 1 := ⟨_, rfl⟩
  obtain ⟨W1, hW1⟩ : ∃ W1, W1 = (((w.alloc (.cells #[.string A, .string B, .string S, .string T, .bool f, .string D, .bool g, .string E] 28)).alloc (.cells #[.string A, .string B] 24)).alloc (.cells #[.string S, .string T, .string D, .string E] 22)).drew := ⟨_, rfl⟩
  have K0 : Bk W1 B0 #[.string A, .string B, .string S, .string T, .bool f, .string D, .bool g, .string E] 28 := by rw [hW1, e0]; exact (((Bk.new _ _ _).alloc _).alloc _).drew
  have K1 : Bk W1 B1 #[.string A, .string B] 24 := by rw [hW1, e1]; exact ((Bk.new1 _ _ _ _).alloc _).drew
  have KF : Bk W1 BF #[.string S, .string T, .string D, .string E] 22 := by
    rw [hW1, eF]
    have h := Bk.new1 (w.alloc (.cells #[.string A, .string B, .string S, .string T, .bool f, .string D, .bool g, .string E] 28)) (.cells #[.string A, .string B] 24) #[.string S, .string T, .string D, .string E] 22
    simp only [World.size_alloc] at h
    exact h.drew
  have HV : Below w.heap.size w W1 := by
    rw [hW1]
    exact ((((Below.refl _ w).alloc (Nat.le_refl _) _).alloc (by simp) _).alloc (by simp; omega) _).drew
  rw [← eF, ← e1, ← e0, ← hW1]
  clear e0 e1 eF hW1
  refine (HF.out _ _ (KF.cell 0) (KF.cell 1) (KF.cell 2) (KF.cell 3) KF.lt).mono ?_
  rintro e u1 ⟨rfl, hb⟩
  clear KF
  replace HV := HV.trans (hb.mono HV.size)
  replace K0 := K0.below hb
  replace K1 := K1.below hb
  clear hb
  have c0_0 : u1.cell? ⟨B0, 0, none⟩ = some (.string A) := K0.cell 0
  have c0_1 : u1.cell? ⟨B0, 1, none⟩ = some (.string B) := K0.cell 1
  have c0_2 : u1.cell? ⟨B0, 2, none⟩ = some (.string S) := K0.cell 2
  have c0_3 : u1.cell? ⟨B0, 3, none⟩ = some (.string T) := K0.cell 3
  have c0_4 : u1.cell? ⟨B0, 4, none⟩ = some (.bool f) := K0.cell 4
  have c0_5 : u1.cell? ⟨B0, 5, none⟩ = some (.string D) := K0.cell 5
  have c0_6 : u1.cell? ⟨B0, 6, none⟩ = some (.bool g) := K0.cell 6
  have c0_7 : u1.cell? ⟨B0, 7, none⟩ = some (.string E) := K0.cell 7
  have c1_0 : u1.cell? ⟨B1, 0, none⟩ = some (.string A) := K1.cell 0
  have c1_1 : u1.cell? ⟨B1, 1, none⟩ = some (.string B) := K1.cell 1
  have l0 := K0.lt
  have l1 := K1.lt
  go_wp2_with fail
  refine (HVD.out _).mono ?_
  rintro e u2 ⟨rfl, hb⟩
  replace HV := HV.trans (hb.mono HV.size)
  replace K0 := K0.below hb
  replace K1 := K1.below hb
  clear hb
  clear c0_0 c0_1 c0_2 c0_3 c0_4 c0_5 c0_6 c0_7 c1_0 c1_1 l0 l1
  have c0_0 : u2.cell? ⟨B0, 0, none⟩ = some (.string A) := K0.cell 0
  have c0_1 : u2.cell? ⟨B0, 1, none⟩ = some (.string B) := K0.cell 1
  have c0_2 : u2.cell? ⟨B0, 2, none⟩ = some (.string S) := K0.cell 2
  have c0_3 : u2.cell? ⟨B0, 3, none⟩ = some (.string T) := K0.cell 3
  have c0_4 : u2.cell? ⟨B0, 4, none⟩ = some (.bool f) := K0.cell 4
  have c0_5 : u2.cell? ⟨B0, 5, none⟩ = some (.string D) := K0.cell 5
  have c0_6 : u2.cell? ⟨B0, 6, none⟩ = some (.bool g) := K0.cell 6
  have c0_7 : u2.cell? ⟨B0, 7, none⟩ = some (.string E) := K0.cell 7
  have c1_0 : u2.cell? ⟨B1, 0, none⟩ = some (.string A) := K1.cell 0
  have c1_1 : u2.cell? ⟨B1, 1, none⟩ = some (.string B) := K1.cell 1
  have l0 := K0.lt
  have l1 := K1.lt
  go_wp2_with fail
  refine (HVE.out _).mono ?_
  rintro e u3 ⟨rfl, hb⟩
  replace HV := HV.trans (hb.mono HV.size)
  replace K0 := K0.below hb
  replace K1 := K1.below hb
  clear hb
  clear c0_0 c0_1 c0_2 c0_3 c0_4 c0_5 c0_6 c0_7 c1_0 c1_1 l0 l1
  have c0_0 : u3.cell? ⟨B0, 0, none⟩ = some (.string A) := K0.cell 0
  have c0_1 : u3.cell? ⟨B0, 1, none⟩ = some (.string B) := K0.cell 1
  have c0_2 : u3.cell? ⟨B0, 2, none⟩ = some (.string S) := K0.cell 2
  have c0_3 : u3.cell? ⟨B0, 3, none⟩ = some (.string T) := K0.cell 3
  have c0_4 : u3.cell? ⟨B0, 4, none⟩ = some (.bool f) := K0.cell 4
  have c0_5 : u3.cell? ⟨B0, 5, none⟩ = some (.string D) := K0.cell 5
  have c0_6 : u3.cell? ⟨B0, 6, none⟩ = some (.bool g) := K0.cell 6
  have c0_7 : u3.cell? ⟨B0, 7, none⟩ = some (.string E) := K0.cell 7
  have c1_0 : u3.cell? ⟨B1, 0, none⟩ = some (.string A) := K1.cell 0
  have c1_1 : u3.cell? ⟨B1, 1, none⟩ = some (.string B) := K1.cell 1
  have l0 := K0.lt
  have l1 := K1.lt
  go_wp2_with fail
  refine (HHa.out _).mono ?_
  rintro e u4 ⟨rfl, hb⟩
  replace HV := HV.trans (hb.mono HV.size)
  replace K0 := K0.below hb
  replace K1 := K1.below hb
  clear hb
  clear c0_0 c0_1 c0_2 c0_3 c0_4 c0_5 c0_6 c0_7 c1_0 c1_1 l0 l1
  have c0_0 : u4.cell? ⟨B0, 0, none⟩ = some (.string A) := K0.cell 0
  have c0_1 : u4.cell? ⟨B0, 1, none⟩ = some (.string B) := K0.cell 1
  have c0_2 : u4.cell? ⟨B0, 2, none⟩ = some (.string S) := K0.cell 2
  have c0_3 : u4.cell? ⟨B0, 3, none⟩ = some (.string T) := K0.cell 3
  have c0_4 : u4.cell? ⟨B0, 4, none⟩ = some (.bool f) := K0.cell 4
  have c0_5 : u4.cell? ⟨B0, 5, none⟩ = some (.string D) := K0.cell 5
  have c0_6 : u4.cell? ⟨B0, 6, none⟩ = some (.bool g) := K0.cell 6
  have c0_7 : u4.cell? ⟨B0, 7, none⟩ = some (.string E) := K0.cell 7
  have c1_0 : u4.cell? ⟨B1, 0, none⟩ = some (.string A) := K1.cell 0
  have c1_1 : u4.cell? ⟨B1, 1, none⟩ = some (.string B) := K1.cell 1
  have l0 := K0.lt
  have l1 := K1.lt
  go_wp2_with fail
  refine (HHb.out _).mono ?_
  rintro e u5 ⟨rfl, hb⟩
  replace HV := HV.trans (hb.mono HV.size)
  replace K0 := K0.below hb
  replace K1 := K1.below hb
  clear hb
  clear c0_0 c0_1 c0_2 c0_3 c0_4 c0_5 c0_6 c0_7 c1_0 c1_1 l0 l1
  have c0_0 : u5.cell? ⟨B0, 0, none⟩ = some (.string A) := K0.cell 0
  have c0_1 : u5.cell? ⟨B0, 1, none⟩ = some (.string B) := K0.cell 1
  have c0_2 : u5.cell? ⟨B0, 2, none⟩ = some (.string S) := K0.cell 2
  have c0_3 : u5.cell? ⟨B0, 3, none⟩ = some (.string T) := K0.cell 3
  have c0_4 : u5.cell? ⟨B0, 4, none⟩ = some (.bool f) := K0.cell 4
  have c0_5 : u5.cell? ⟨B0, 5, none⟩ = some (.string D) := K0.cell 5
  have c0_6 : u5.cell? ⟨B0, 6, none⟩ = some (.bool g) := K0.cell 6
  have c0_7 : u5.cell? ⟨B0, 7, none⟩ = some (.string E) := K0.cell 7
  have c1_0 : u5.cell? ⟨B1, 0, none⟩ = some (.string A) := K1.cell 0
  have c1_1 : u5.cell? ⟨B1, 1, none⟩ = some (.string B) := K1.cell 1
  have l0 := K0.lt
  have l1 := K1.lt
  go_wp2_with fail
  refine (HM1.out _).mono ?_
  rintro e u6 ⟨rfl, hb⟩
  replace HV := HV.trans (hb.mono HV.size)
  replace K0 := K0.below hb
  replace K1 := K1.below hb
  clear hb
  clear c0_0 c0_1 c0_2 c0_3 c0_4 c0_5 c0_6 c0_7 c1_0 c1_1 l0 l1
  have c0_0 : u6.cell? ⟨B0, 0, none⟩ = some (.string A) := K0.cell 0
  have c0_1 : u6.cell? ⟨B0, 1, none⟩ = some (.string B) := K0.cell 1
  have c0_2 : u6.cell? ⟨B0, 2, none⟩ = some (.string S) := K0.cell 2
  have c0_3 : u6.cell? ⟨B0, 3, none⟩ = some (.string T) := K0.cell 3
  have c0_4 : u6.cell? ⟨B0, 4, none⟩ = some (.bool f) := K0.cell 4
  have c0_5 : u6.cell? ⟨B0, 5, none⟩ = some (.string D) := K0.cell 5
  have c0_6 : u6.cell? ⟨B0, 6, none⟩ = some (.bool g) := K0.cell 6
  have c0_7 : u6.cell? ⟨B0, 7, none⟩ = some (.string E) := K0.cell 7
  have c1_0 : u6.cell? ⟨B1, 0, none⟩ = some (.string A) := K1.cell 0
  have c1_1 : u6.cell? ⟨B1, 1, none⟩ = some (.string B) := K1.cell 1
  have l0 := K0.lt
  have l1 := K1.lt
  go_wp2_with fail
  refine (HM2.out _).mono ?_
  rintro e u7 ⟨rfl, hb⟩
  replace HV := HV.trans (hb.mono HV.size)
  replace K0 := K0.below hb
  replace K1 := K1.below hb
  clear hb
  clear c0_0 c0_1 c0_2 c0_3 c0_4 c0_5 c0_6 c0_7 c1_0 c1_1 l0 l1
  have c0_0 : u7.cell? ⟨B0, 0, none⟩ = some (.string A) := K0.cell 0
  have c0_1 : u7.cell? ⟨B0, 1, none⟩ = some (.string B) := K0.cell 1
  have c0_2 : u7.cell? ⟨B0, 2, none⟩ = some (.string S) := K0.cell 2
  have c0_3 : u7.cell? ⟨B0, 3, none⟩ = some (.string T) := K0.cell 3
  have c0_4 : u7.cell? ⟨B0, 4, none⟩ = some (.bool f) := K0.cell 4
  have c0_5 : u7.cell? ⟨B0, 5, none⟩ = some (.string D) := K0.cell 5
  have c0_6 : u7.cell? ⟨B0, 6, none⟩ = some (.bool g) := K0.cell 6
  have c0_7 : u7.cell? ⟨B0, 7, none⟩ = some (.string E) := K0.cell 7
  have c1_0 : u7.cell? ⟨B1, 0, none⟩ = some (.string A) := K1.cell 0
  have c1_1 : u7.cell? ⟨B1, 1, none⟩ = some (.string B) := K1.cell 1
  have l0 := K0.lt
  have l1 := K1.lt
  go_wp2_with fail
  refine (HP1.out _).mono ?_
  rintro e u8 ⟨rfl, hb⟩
  replace HV := HV.trans (hb.mono HV.size)
  replace K0 := K0.below hb
  replace K1 := K1.below hb
  clear hb
  clear c0_0 c0_1 c0_2 c0_3 c0_4 c0_5 c0_6 c0_7 c1_0 c1_1 l0 l1
  have c0_0 : u8.cell? ⟨B0, 0, none⟩ = some (.string A) := K0.cell 0
  have c0_1 : u8.cell? ⟨B0, 1, none⟩ = some (.string B) := K0.cell 1
  have c0_2 : u8.cell? ⟨B0, 2, none⟩ = some (.string S) := K0.cell 2
  have c0_3 : u8.cell? ⟨B0, 3, none⟩ = some (.string T) := K0.cell 3
  have c0_4 : u8.cell? ⟨B0, 4, none⟩ = some (.bool f) := K0.cell 4
  have c0_5 : u8.cell? ⟨B0, 5, none⟩ = some (.string D) := K0.cell 5
  have c0_6 : u8.cell? ⟨B0, 6, none⟩ = some (.bool g) := K0.cell 6
  have c0_7 : u8.cell? ⟨B0, 7, none⟩ = some (.string E) := K0.cell 7
  have c1_0 : u8.cell? ⟨B1, 0, none⟩ = some (.string A) := K1.cell 0
  have c1_1 : u8.cell? ⟨B1, 1, none⟩ = some (.string B) := K1.cell 1
  have l0 := K0.lt
  have l1 := K1.lt
  go_wp2_with fail
  refine (HP2.out _).mono ?_
  rintro e u9 ⟨rfl, hb⟩
  replace HV := HV.trans (hb.mono HV.size)
  replace K0 := K0.below hb
  replace K1 := K1.below hb
  clear hb
  clear c0_0 c0_1 c0_2 c0_3 c0_4 c0_5 c0_6 c0_7 c1_0 c1_1 l0 l1
  have c0_0 : u9.cell? ⟨B0, 0, none⟩ = some (.string A) := K0.cell 0
  have c0_1 : u9.cell? ⟨B0, 1, none⟩ = some (.string B) := K0.cell 1
  have c0_2 : u9.cell? ⟨B0, 2, none⟩ = some (.string S) := K0.cell 2
  have c0_3 : u9.cell? ⟨B0, 3, none⟩ = some (.string T) := K0.cell 3
  have c0_4 : u9.cell? ⟨B0, 4, none⟩ = some (.bool f) := K0.cell 4
  have c0_5 : u9.cell? ⟨B0, 5, none⟩ = some (.string D) := K0.cell 5
  have c0_6 : u9.cell? ⟨B0, 6, none⟩ = some (.bool g) := K0.cell 6
  have c0_7 : u9.cell? ⟨B0, 7, none⟩ = some (.string E) := K0.cell 7
  have c1_0 : u9.cell? ⟨B1, 0, none⟩ = some (.string A) := K1.cell 0
  have c1_1 : u9.cell? ⟨B1, 1, none⟩ = some (.string B) := K1.cell 1
  have l0 := K0.lt
  have l1 := K1.lt
  go_wp2_with fail
  refine (HA.out _).mono ?_
  rintro e u10 ⟨rfl, hb⟩
  replace HV := HV.trans (hb.mono HV.size)
  replace K0 := K0.below hb
  replace K1 := K1.below hb
  clear hb
  clear c0_0 c0_1 c0_2 c0_3 c0_4 c0_5 c0_6 c0_7 c1_0 c1_1 l0 l1
  have c0_0 : u10.cell? ⟨B0, 0, none⟩ = some (.string A) := K0.cell 0
  have c0_1 : u10.cell? ⟨B0, 1, none⟩ = some (.string B) := K0.cell 1
  have c0_2 : u10.cell? ⟨B0, 2, none⟩ = some (.string S) := K0.cell 2
  have c0_3 : u10.cell? ⟨B0, 3, none⟩ = some (.string T) := K0.cell 3
  have c0_4 : u10.cell? ⟨B0, 4, none⟩ = some (.bool f) := K0.cell 4
  have c0_5 : u10.cell? ⟨B0, 5, none⟩ = some (.string D) := K0.cell 5
  have c0_6 : u10.cell? ⟨B0, 6, none⟩ = some (.bool g) := K0.cell 6
  have c0_7 : u10.cell? ⟨B0, 7, none⟩ = some (.string E) := K0.cell 7
  have c1_0 : u10.cell? ⟨B1, 0, none⟩ = some (.string A) := K1.cell 0
  have c1_1 : u10.cell? ⟨B1, 1, none⟩ = some (.string B) := K1.cell 1
  have l0 := K0.lt
  have l1 := K1.lt
  go_wp2_with fail
  refine (HP3.out _).mono ?_
  rintro e u11 ⟨rfl, hb⟩
  have hb0 := (Below.refl _ u10).alloc (Nat.le_refl _) (.cells #[.bool h, .string U] 26)
  replace hb := hb0.trans (hb.mono hb0.size)
  clear hb0
  replace HV := HV.trans (hb.mono HV.size)
  replace K0 := K0.below hb
  replace K1 := K1.below hb
  clear hb
  clear c0_0 c0_1 c0_2 c0_3 c0_4 c0_5 c0_6 c0_7 c1_0 c1_1 l0 l1
  have c0_0 : u11.cell? ⟨B0, 0, none⟩ = some (.string A) := K0.cell 0
  have c0_1 : u11.cell? ⟨B0, 1, none⟩ = some (.string B) := K0.cell 1
  have c0_2 : u11.cell? ⟨B0, 2, none⟩ = some (.string S) := K0.cell 2
  have c0_3 : u11.cell? ⟨B0, 3, none⟩ = some (.string T) := K0.cell 3
  have c0_4 : u11.cell? ⟨B0, 4, none⟩ = some (.bool f) := K0.cell 4
  have c0_5 : u11.cell? ⟨B0, 5, none⟩ = some (.string D) := K0.cell 5
  have c0_6 : u11.cell? ⟨B0, 6, none⟩ = some (.bool g) := K0.cell 6
  have c0_7 : u11.cell? ⟨B0, 7, none⟩ = some (.string E) := K0.cell 7
  have c1_0 : u11.cell? ⟨B1, 0, none⟩ = some (.string A) := K1.cell 0
  have c1_1 : u11.cell? ⟨B1, 1, none⟩ = some (.string B) := K1.cell 1
  have l0 := K0.lt
  have l1 := K1.lt
  go_wp2_with fail
  refine (HM3.out _).mono ?_
  rintro e u12 ⟨rfl, hb⟩
  replace HV := HV.trans (hb.mono HV.size)
  replace K0 := K0.below hb
  replace K1 := K1.below hb
  clear hb
  clear c0_0 c0_1 c0_2 c0_3 c0_4 c0_5 c0_6 c0_7 c1_0 c1_1 l0 l1
  have c0_0 : u12.cell? ⟨B0, 0, none⟩ = some (.string A) := K0.cell 0
  have c0_1 : u12.cell? ⟨B0, 1, none⟩ = some (.string B) := K0.cell 1
  have c0_2 : u12.cell? ⟨B0, 2, none⟩ = some (.string S) := K0.cell 2
  have c0_3 : u12.cell? ⟨B0, 3, none⟩ = some (.string T) := K0.cell 3
  have c0_4 : u12.cell? ⟨B0, 4, none⟩ = some (.bool f) := K0.cell 4
  have c0_5 : u12.cell? ⟨B0, 5, none⟩ = some (.string D) := K0.cell 5
  have c0_6 : u12.cell? ⟨B0, 6, none⟩ = some (.bool g) := K0.cell 6
  have c0_7 : u12.cell? ⟨B0, 7, none⟩ = some (.string E) := K0.cell 7
  have c1_0 : u12.cell? ⟨B1, 0, none⟩ = some (.string A) := K1.cell 0
  have c1_1 : u12.cell? ⟨B1, 1, none⟩ = some (.string B) := K1.cell 1
  have l0 := K0.lt
  have l1 := K1.lt
  go_wp2_with fail
  replace K0 := K0.drew
  replace K1 := K1.drew
  replace HV := HV.drew
  go_region_with (first | (go_at_call 12; (refine (HFr.out _).mono ?_); rintro e u21 ⟨rfl, hb⟩; replace HV := HV.trans (hb.mono HV.size); replace K0 := K0.below hb; replace K1 := K1.below hb; clear hb c0_0 c0_1 c0_2 c0_3 c0_4 c0_5 c0_6 c0_7 c1_0 c1_1 l0 l1; have c0_0 : u21.cell? ⟨B0, 0, none⟩ = some (.string A) := K0.cell 0; have c0_1 : u21.cell? ⟨B0, 1, none⟩ = some (.string B) := K0.cell 1; have c0_2 : u21.cell? ⟨B0, 2, none⟩ = some (.string S) := K0.cell 2; have c0_3 : u21.cell? ⟨B0, 3, none⟩ = some (.string T) := K0.cell 3; have c0_4 : u21.cell? ⟨B0, 4, none⟩ = some (.bool f) := K0.cell 4; have c0_5 : u21.cell? ⟨B0, 5, none⟩ = some (.string D) := K0.cell 5; have c0_6 : u21.cell? ⟨B0, 6, none⟩ = some (.bool g) := K0.cell 6; have c0_7 : u21.cell? ⟨B0, 7, none⟩ = some (.string E) := K0.cell 7; have c1_0 : u21.cell? ⟨B1, 0, none⟩ = some (.string A) := K1.cell 0; have c1_1 : u21.cell? ⟨B1, 1, none⟩ = some (.string B) := K1.cell 1; have l0 := K0.lt; have l1 := K1.lt) | (go_at_call 10; (refine (HP4.out _).mono ?_); rintro e u22 ⟨rfl, hb⟩; replace HV := HV.trans (hb.mono HV.size); replace K0 := K0.below hb; replace K1 := K1.below hb; clear hb c0_0 c0_1 c0_2 c0_3 c0_4 c0_5 c0_6 c0_7 c1_0 c1_1 l0 l1; have c0_0 : u22.cell? ⟨B0, 0, none⟩ = some (.string A) := K0.cell 0; have c0_1 : u22.cell? ⟨B0, 1, none⟩ = some (.string B) := K0.cell 1; have c0_2 : u22.cell? ⟨B0, 2, none⟩ = some (.string S) := K0.cell 2; have c0_3 : u22.cell? ⟨B0, 3, none⟩ = some (.string T) := K0.cell 3; have c0_4 : u22.cell? ⟨B0, 4, none⟩ = some (.bool f) := K0.cell 4; have c0_5 : u22.cell? ⟨B0, 5, none⟩ = some (.string D) := K0.cell 5; have c0_6 : u22.cell? ⟨B0, 6, none⟩ = some (.bool g) := K0.cell 6; have c0_7 : u22.cell? ⟨B0, 7, none⟩ = some (.string E) := K0.cell 7; have c1_0 : u22.cell? ⟨B1, 0, none⟩ = some (.string A) := K1.cell 0; have c1_1 : u22.cell? ⟨B1, 1, none⟩ = some (.string B) := K1.cell 1; have l0 := K0.lt; have l1 := K1.lt))
  all_goals
    go_wp2_with fail
    refine (HP5.out _).mono ?_
    rintro e u23 ⟨rfl, hb⟩
    replace HV := HV.trans (hb.mono HV.size)
    replace K0 := K0.below hb
    replace K1 := K1.below hb
    clear hb
    clear c0_0 c0_1 c0_2 c0_3 c0_4 c0_5 c0_6 c0_7 c1_0 c1_1 l0 l1
    have c0_0 : u23.cell? ⟨B0, 0, none⟩ = some (.string A) := K0.cell 0
    have c0_1 : u23.cell? ⟨B0, 1, none⟩ = some (.string B) := K0.cell 1
    have c0_2 : u23.cell? ⟨B0, 2, none⟩ = some (.string S) := K0.cell 2
    have c0_3 : u23.cell? ⟨B0, 3, none⟩ = some (.string T) := K0.cell 3
    have c0_4 : u23.cell? ⟨B0, 4, none⟩ = some (.bool f) := K0.cell 4
    have c0_5 : u23.cell? ⟨B0, 5, none⟩ = some (.string D) := K0.cell 5
    have c0_6 : u23.cell? ⟨B0, 6, none⟩ = some (.bool g) := K0.cell 6
    have c0_7 : u23.cell? ⟨B0, 7, none⟩ = some (.string E) := K0.cell 7
    have c1_0 : u23.cell? ⟨B1, 0, none⟩ = some (.string A) := K1.cell 0
    have c1_1 : u23.cell? ⟨B1, 1, none⟩ = some (.string B) := K1.cell 1
    have l0 := K0.lt
    have l1 := K1.lt
    go_wp2_with fail
    refine (HP6.out _).mono ?_
    rintro e u24 ⟨rfl, hb⟩
    replace HV := HV.trans (hb.mono HV.size)
    replace K0 := K0.below hb
    replace K1 := K1.below hb
    clear hb
    clear c0_0 c0_1 c0_2 c0_3 c0_4 c0_5 c0_6 c0_7 c1_0 c1_1 l0 l1
    have c0_0 : u24.cell? ⟨B0, 0, none⟩ = some (.string A) := K0.cell 0
    have c0_1 : u24.cell? ⟨B0, 1, none⟩ = some (.string B) := K0.cell 1
    have c0_2 : u24.cell? ⟨B0, 2, none⟩ = some (.string S) := K0.cell 2
    have c0_3 : u24.cell? ⟨B0, 3, none⟩ = some (.string T) := K0.cell 3
    have c0_4 : u24.cell? ⟨B0, 4, none⟩ = some (.bool f) := K0.cell 4
    have c0_5 : u24.cell? ⟨B0, 5, none⟩ = some (.string D) := K0.cell 5
    have c0_6 : u24.cell? ⟨B0, 6, none⟩ = some (.bool g) := K0.cell 6
    have c0_7 : u24.cell? ⟨B0, 7, none⟩ = some (.string E) := K0.cell 7
    have c1_0 : u24.cell? ⟨B1, 0, none⟩ = some (.string A) := K1.cell 0
    have c1_1 : u24.cell? ⟨B1, 1, none⟩ = some (.string B) := K1.cell 1
    have l0 := K0.lt
    have l1 := K1.lt
    go_wp2_with fail
    refine (HM4.out _).mono ?_
    rintro e u25 ⟨rfl, hb⟩
    replace HV := HV.trans (hb.mono HV.size)
    replace K0 := K0.below hb
    replace K1 := K1.below hb
    clear hb
    clear c0_0 c0_1 c0_2 c0_3 c0_4 c0_5 c0_6 c0_7 c1_0 c1_1 l0 l1
    have c0_0 : u25.cell? ⟨B0, 0, none⟩ = some (.string A) := K0.cell 0
    have c0_1 : u25.cell? ⟨B0, 1, none⟩ = some (.string B) := K0.cell 1
    have c0_2 : u25.cell? ⟨B0, 2, none⟩ = some (.string S) := K0.cell 2
    have c0_3 : u25.cell? ⟨B0, 3, none⟩ = some (.string T) := K0.cell 3
    have c0_4 : u25.cell? ⟨B0, 4, none⟩ = some (.bool f) := K0.cell 4
    have c0_5 : u25.cell? ⟨B0, 5, none⟩ = some (.string D) := K0.cell 5
    have c0_6 : u25.cell? ⟨B0, 6, none⟩ = some (.bool g) := K0.cell 6
    have c0_7 : u25.cell? ⟨B0, 7, none⟩ = some (.string E) := K0.cell 7
    have c1_0 : u25.cell? ⟨B1, 0, none⟩ = some (.string A) := K1.cell 0
    have c1_1 : u25.cell? ⟨B1, 1, none⟩ = some (.string B) := K1.cell 1
    have l0 := K0.lt
    have l1 := K1.lt
    go_wp2_with fail
    refine (HH.out _).mono ?_
    rintro e u26 ⟨rfl, hb⟩
    replace HV := HV.trans (hb.mono HV.size)
    replace K0 := K0.below hb
    replace K1 := K1.below hb
    clear hb
    clear c0_0 c0_1 c0_2 c0_3 c0_4 c0_5 c0_6 c0_7 c1_0 c1_1 l0 l1
    have c0_0 : u26.cell? ⟨B0, 0, none⟩ = some (.string A) := K0.cell 0
    have c0_1 : u26.cell? ⟨B0, 1, none⟩ = some (.string B) := K0.cell 1
    have c0_2 : u26.cell? ⟨B0, 2, none⟩ = some (.string S) := K0.cell 2
    have c0_3 : u26.cell? ⟨B0, 3, none⟩ = some (.string T) := K0.cell 3
    have c0_4 : u26.cell? ⟨B0, 4, none⟩ = some (.bool f) := K0.cell 4
    have c0_5 : u26.cell? ⟨B0, 5, none⟩ = some (.string D) := K0.cell 5
    have c0_6 : u26.cell? ⟨B0, 6, none⟩ = some (.bool g) := K0.cell 6
    have c0_7 : u26.cell? ⟨B0, 7, none⟩ = some (.string E) := K0.cell 7
    have c1_0 : u26.cell? ⟨B1, 0, none⟩ = some (.string A) := K1.cell 0
    have c1_1 : u26.cell? ⟨B1, 1, none⟩ = some (.string B) := K1.cell 1
    have l0 := K0.lt
    have l1 := K1.lt
    go_wp2_with fail
    refine (HW.out _).mono ?_
    rintro e u27 ⟨rfl, hb⟩
    replace HV := HV.trans (hb.mono HV.size)
    replace K0 := K0.below hb
    replace K1 := K1.below hb
    clear hb
    clear c0_0 c0_1 c0_2 c0_3 c0_4 c0_5 c0_6 c0_7 c1_0 c1_1 l0 l1
    have c0_0 : u27.cell? ⟨B0, 0, none⟩ = some (.string A) := K0.cell 0
    have c0_1 : u27.cell? ⟨B0, 1, none⟩ = some (.string B) := K0.cell 1
    have c0_2 : u27.cell? ⟨B0, 2, none⟩ = some (.string S) := K0.cell 2
    have c0_3 : u27.cell? ⟨B0, 3, none⟩ = some (.string T) := K0.cell 3
    have c0_4 : u27.cell? ⟨B0, 4, none⟩ = some (.bool f) := K0.cell 4
    have c0_5 : u27.cell? ⟨B0, 5, none⟩ = some (.string D) := K0.cell 5
    have c0_6 : u27.cell? ⟨B0, 6, none⟩ = some (.bool g) := K0.cell 6
    have c0_7 : u27.cell? ⟨B0, 7, none⟩ = some (.string E) := K0.cell 7
    have c1_0 : u27.cell? ⟨B1, 0, none⟩ = some (.string A) := K1.cell 0
    have c1_1 : u27.cell? ⟨B1, 1, none⟩ = some (.string B) := K1.cell 1
    have l0 := K0.lt
    have l1 := K1.lt
    go_wp2
    go_ret
    exact ⟨rfl, HV⟩
theorem law_glws (A B S T D E : ByteArray) (f g : Bool) (w : World) (hA : A.size ≤ 9223372036854775807) (hB : B.size ≤ 9223372036854775807) (hS : S.size ≤ 9223372036854775807) (hT : T.size ≤ 9223372036854775807) (hD : D.size ≤ 9223372036854775807) (hE : E.size ≤ 9223372036854775807) :
    Calls Try.prog 3 #[.agg #[.string A, .string B, .string S, .string T, .bool f, .string D, .bool g, .string E]] w (Made w (.bool true)) := by
  obtain ⟨b, HF, hF⟩ := few9_four A B S T D E hA hB hS hT hD hE
  cases b with
  | false => exact glws_no0 A B S T D E f g w HF
  | true =>
    obtain ⟨h8, _, _, _, hD20, hE20⟩ := hF rfl
    clear hF
    rcases vD : vI f D with _ | _
    · exact glws_no1 A B S T D E f g w HF (fun W => ivalid_no vD W hD)
    obtain ⟨x, hx, rfl, rfl⟩ := vI_of vD
    have hvd := fun W => ivalid_yes hx W
    rcases vE : vI g E with _ | _
    · exact glws_no2 A B S T _ E _ g w HF hvd (fun W => ivalid_no vE W hE)
    obtain ⟨y, hy, rfl, rfl⟩ := vI_of vE
    have hve := fun W => ivalid_yes hy W
    rcases vS : (validB A && validB B && validB S) with _ | _
    · exact glws_no3 A B S T _ _ _ _ w HF hvd hve (fun W => has_no A B S W hA hB hS vS)
    simp only [Bool.and_eq_true] at vS
    obtain ⟨⟨vA, vB⟩, vS⟩ := vS
    obtain ⟨p, hp, rfl⟩ := bs_of_valid vA
    obtain ⟨q, hq, rfl⟩ := bs_of_valid vB
    obtain ⟨a, ha, rfl⟩ := bs_of_valid vS
    have hha := fun W => has_ok p q a W hp hq ha
    rcases na : hasN p q a with _ | _
    · rw [na] at hha
      exact glws_no3 _ _ _ T _ _ _ _ w HF hvd hve hha
    rw [na] at hha
    rcases vT : validB T with _ | _
    · exact glws_no4 _ _ _ T _ _ _ _ w HF hvd hve hha (fun W => has_no _ _ T W hA hB hT (by rw [vT]; simp))
    obtain ⟨b, hb, rfl⟩ := bs_of_valid vT
    have hhb := fun W => has_ok p q b W hp hq hb
    rcases nb : hasN p q b with _ | _
    · rw [nb] at hhb
      exact glws_no4 _ _ _ _ _ _ _ _ w HF hvd hve hha hhb
    rw [nb] at hhb
    rw [bs_le] at h8 hD20 hE20
    have nab := has_mul na nb
    have hsum : zabs (x + y) < Top := by
      have h1 : zabs (x + y) ≤ zabs x + zabs y := by unfold zabs; omega
      have h2 : (256 : Nat) ^ 20 + 256 ^ 20 ≤ 256 ^ 60 := by decide
      exact lt_top60 (by omega)
    have hqz : zabs (q : Int) < Top := by rw [zabs_nat]; exact hq
    have habT : a * b % p < Top := Nat.lt_trans (hasN_iff.1 nab).2.2.1 hp
    have hhab := fun W => has_ok p q (a * b % p) W hp hq habT
    rw [nab] at hhab
    have hone := fun W => ppow_any (p := p) (q := q) (a := a * b % p) (z := (q : Int)) h8 hq nab hqz W
    rw [pwr_order nab, b1] at hone
    have hm2 := fun W => pmul_any hp hq nb na W
    rw [Nat.mul_comm b a] at hm2
    have hm3 := fun W => pmul_any hp hq (has_pwr na x) (has_pwr na y) W
    rw [pwr_add na] at hm3
    have hm4 := fun W => pmul_any hp hq (has_pwr na x) (has_pwr nb x) W
    rw [← pwr_mul] at hm4
    exact glws_yes _ _ _ _ _ _ _ _ _ _ _ _ _ _ _ _ _ _ w HF hvd hve hha hhb (fun W => pmul_any hp hq na nb W) hm2 (fun W => ppow_any h8 hq na hx W) (fun W => ppow_any h8 hq na hy W)
      (fun W => iadd_ok hx hy hsum W) (fun W => ppow_any h8 hq na hsum W) hm3 (fun W => from_yes hq W) hone (fun W => ppow_any h8 hq nab hx W) (fun W => ppow_any h8 hq nb hx W) hm4 hhab
end Go.Proofs.Ytmiafkbjmkaebaa
