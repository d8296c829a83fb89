/-
  The law of dominolaw09.PrimegroupPowers.
-/
import Derived.Test.YtmiafkbjmkaebaaGreatPg
import Derived.Test.YtmiafkbjmkaebaaGreatModO
namespace Go.Proofs.YtmiafkbjmkaebaaGreat
open Go.RowKit Num

set_option maxHeartbeats 1000000 in
set_option maxRecDepth 100000 in
theorem gpow_no (A B S E : ByteArray) (f : Bool) (w : World) (HFW : ∀ (W : World) (gb : Nat), W.cell? ⟨gb, 0, none⟩ = some (.string S) → W.cell? ⟨gb, 1, none⟩ = some (.string E) → gb < W.heap.size → Calls Tryz.prog 11 #[.agg #[.string A, .string B], .slice (some ⟨gb, 0, none⟩) 2 2] W (Made W (.bool false))) :
    Calls Tryz.prog 6 #[.agg #[.string A, .string B], .string S, .agg #[.bool f, .string E]] w (Made w (.bool true)) := by
  have HF := Lib.hid HFW
  have HW := Lib.hid awake9
  clear HFW
  have HV : Below w.heap.size w (((w.alloc (.cells #[.string A, .string B] 24)).alloc (.cells #[.bool f, .string E] 38)).alloc (.cells #[.string S, .string E] 22)) := ((((Below.refl w.heap.size w).alloc (Nat.le_refl _) (.cells #[.string A, .string B] 24)).alloc (by simp) (.cells #[.bool f, .string E] 38)).alloc (by simp; omega) (.cells #[.string S, .string E] 22))
  have K0 : Bk (((w.alloc (.cells #[.string A, .string B] 24)).alloc (.cells #[.bool f, .string E] 38)).alloc (.cells #[.string S, .string E] 22)) w.heap.size #[.string A, .string B] 24 := (((Bk.new w #[.string A, .string B] 24).alloc (.cells #[.bool f, .string E] 38)).alloc (.cells #[.string S, .string E] 22))
  have K1 : Bk (((w.alloc (.cells #[.string A, .string B] 24)).alloc (.cells #[.bool f, .string E] 38)).alloc (.cells #[.string S, .string E] 22)) (w.heap.size + 1) #[.bool f, .string E] 38 := by have h := ((Bk.new (w.alloc (.cells #[.string A, .string B] 24)) #[.bool f, .string E] 38).alloc (.cells #[.string S, .string E] 22)); simpa using h
  have K2 : Bk (((w.alloc (.cells #[.string A, .string B] 24)).alloc (.cells #[.bool f, .string E] 38)).alloc (.cells #[.string S, .string E] 22)) (w.heap.size + 2) #[.string S, .string E] 22 := by have h := (Bk.new ((w.alloc (.cells #[.string A, .string B] 24)).alloc (.cells #[.bool f, .string E] 38)) #[.string S, .string E] 22); simpa using h
  go_enter Tryz.func6, Tryz.ntmps6
  go_wp2_with fail
  refine (HF.out _ _ (K2.cell 0) (K2.cell 1) K2.lt).mono ?_
  rintro e u1 ⟨rfl, hb⟩
  replace HV := HV.trans (hb.mono HV.size)
  replace K0 := K0.below hb
  replace K1 := K1.below hb
  replace K2 := K2.below hb
  clear hb
  have c0_0 : u1.cell? ⟨w.heap.size, 0, none⟩ = some (.string A) := K0.cell 0
  have c0_1 : u1.cell? ⟨w.heap.size, 1, none⟩ = some (.string B) := K0.cell 1
  have l0 := K0.lt
  have c1_0 : u1.cell? ⟨(w.heap.size + 1), 0, none⟩ = some (.bool f) := K1.cell 0
  have c1_1 : u1.cell? ⟨(w.heap.size + 1), 1, none⟩ = some (.string E) := K1.cell 1
  have l1 := K1.lt
  have c2_0 : u1.cell? ⟨(w.heap.size + 2), 0, none⟩ = some (.string S) := K2.cell 0
  have c2_1 : u1.cell? ⟨(w.heap.size + 2), 1, none⟩ = some (.string E) := K2.cell 1
  have l2 := K2.lt
  go_wp2_with fail
  refine (HW.out _).mono ?_
  rintro e u2 ⟨rfl, hb⟩
  replace HV := HV.trans (hb.mono HV.size)
  replace K0 := K0.below hb
  replace K1 := K1.below hb
  replace K2 := K2.below hb
  clear hb
  clear c0_0 c0_1 l0
  have c0_0 : u2.cell? ⟨w.heap.size, 0, none⟩ = some (.string A) := K0.cell 0
  have c0_1 : u2.cell? ⟨w.heap.size, 1, none⟩ = some (.string B) := K0.cell 1
  have l0 := K0.lt
  clear c1_0 c1_1 l1
  have c1_0 : u2.cell? ⟨(w.heap.size + 1), 0, none⟩ = some (.bool f) := K1.cell 0
  have c1_1 : u2.cell? ⟨(w.heap.size + 1), 1, none⟩ = some (.string E) := K1.cell 1
  have l1 := K1.lt
  clear c2_0 c2_1 l2
  have c2_0 : u2.cell? ⟨(w.heap.size + 2), 0, none⟩ = some (.string S) := K2.cell 0
  have c2_1 : u2.cell? ⟨(w.heap.size + 2), 1, none⟩ = some (.string E) := K2.cell 1
  have l2 := K2.lt
  go_wp2
  go_ret
  exact ⟨rfl, HV⟩
set_option maxHeartbeats 1000000 in
set_option maxRecDepth 100000 in
theorem gpow_yes (A B S E R : ByteArray) (f : Bool) (c : Int) (w : World) (HFW : ∀ (W : World) (gb : Nat), W.cell? ⟨gb, 0, none⟩ = some (.string S) → W.cell? ⟨gb, 1, none⟩ = some (.string E) → gb < W.heap.size → Calls Tryz.prog 11 #[.agg #[.string A, .string B], .slice (some ⟨gb, 0, none⟩) 2 2] W (Made W (.bool true)))
    (h1 : ∀ W, Calls Tryz.prog 18 #[.agg #[.string A, .string B], .string S, .agg #[.bool f, .string E]] W (Made W (.tuple #[.string R, .int .i64 c]))) (h2 : ∀ W, Calls Tryz.prog 19 #[.agg #[.string A, .string B], .string S, .agg #[.bool f, .string E]] W (Made W (.tuple #[.string R, .int .i64 c]))) :
    Calls Tryz.prog 6 #[.agg #[.string A, .string B], .string S, .agg #[.bool f, .string E]] w (Made w (.bool true)) := by
  have HF := Lib.hid HFW
  have H1 := Lib.hid h1
  have H2 := Lib.hid h2
  have HW := Lib.hid awake9
  clear HFW h1 h2
  have HV : Below w.heap.size w (((w.alloc (.cells #[.string A, .string B] 24)).alloc (.cells #[.bool f, .string E] 38)).alloc (.cells #[.string S, .string E] 22)) := ((((Below.refl w.heap.size w).alloc (Nat.le_refl _) (.cells #[.string A, .string B] 24)).alloc (by simp) (.cells #[.bool f, .string E] 38)).alloc (by simp; omega) (.cells #[.string S, .string E] 22))
  have K0 : Bk (((w.alloc (.cells #[.string A, .string B] 24)).alloc (.cells #[.bool f, .string E] 38)).alloc (.cells #[.string S, .string E] 22)) w.heap.size #[.string A, .string B] 24 := (((Bk.new w #[.string A, .string B] 24).alloc (.cells #[.bool f, .string E] 38)).alloc (.cells #[.string S, .string E] 22))
  have K1 : Bk (((w.alloc (.cells #[.string A, .string B] 24)).alloc (.cells #[.bool f, .string E] 38)).alloc (.cells #[.string S, .string E] 22)) (w.heap.size + 1) #[.bool f, .string E] 38 := by have h := ((Bk.new (w.alloc (.cells #[.string A, .string B] 24)) #[.bool f, .string E] 38).alloc (.cells #[.string S, .string E] 22)); simpa using h
  have K2 : Bk (((w.alloc (.cells #[.string A, .string B] 24)).alloc (.cells #[.bool f, .string E] 38)).alloc (.cells #[.string S, .string E] 22)) (w.heap.size + 2) #[.string S, .string E] 22 := by have h := (Bk.new ((w.alloc (.cells #[.string A, .string B] 24)).alloc (.cells #[.bool f, .string E] 38)) #[.string S, .string E] 22); simpa using h
  go_enter Tryz.func6, Tryz.ntmps6
  go_wp2_with fail
  refine (HF.out _ _ (K2.cell 0) (K2.cell 1) K2.lt).mono ?_
  rintro e u1 ⟨rfl, hb⟩
  replace HV := HV.trans (hb.mono HV.size)
  replace K0 := K0.below hb
  replace K1 := K1.below hb
  replace K2 := K2.below hb
  clear hb
  have c0_0 : u1.cell? ⟨w.heap.size, 0, none⟩ = some (.string A) := K0.cell 0
  have c0_1 : u1.cell? ⟨w.heap.size, 1, none⟩ = some (.string B) := K0.cell 1
  have l0 := K0.lt
  have c1_0 : u1.cell? ⟨(w.heap.size + 1), 0, none⟩ = some (.bool f) := K1.cell 0
  have c1_1 : u1.cell? ⟨(w.heap.size + 1), 1, none⟩ = some (.string E) := K1.cell 1
  have l1 := K1.lt
  have c2_0 : u1.cell? ⟨(w.heap.size + 2), 0, none⟩ = some (.string S) := K2.cell 0
  have c2_1 : u1.cell? ⟨(w.heap.size + 2), 1, none⟩ = some (.string E) := K2.cell 1
  have l2 := K2.lt
  go_wp2_with fail
  refine (H1.out _).mono ?_
  rintro e u2 ⟨rfl, hb⟩
  replace HV := HV.trans (hb.mono HV.size)
  replace K0 := K0.below hb
  replace K1 := K1.below hb
  replace K2 := K2.below hb
  clear hb
  clear c0_0 c0_1 l0
  have c0_0 : u2.cell? ⟨w.heap.size, 0, none⟩ = some (.string A) := K0.cell 0
  have c0_1 : u2.cell? ⟨w.heap.size, 1, none⟩ = some (.string B) := K0.cell 1
  have l0 := K0.lt
  clear c1_0 c1_1 l1
  have c1_0 : u2.cell? ⟨(w.heap.size + 1), 0, none⟩ = some (.bool f) := K1.cell 0
  have c1_1 : u2.cell? ⟨(w.heap.size + 1), 1, none⟩ = some (.string E) := K1.cell 1
  have l1 := K1.lt
  clear c2_0 c2_1 l2
  have c2_0 : u2.cell? ⟨(w.heap.size + 2), 0, none⟩ = some (.string S) := K2.cell 0
  have c2_1 : u2.cell? ⟨(w.heap.size + 2), 1, none⟩ = some (.string E) := K2.cell 1
  have l2 := K2.lt
  go_wp2_with fail
  refine (H2.out _).mono ?_
  rintro e u3 ⟨rfl, hb⟩
  replace HV := HV.trans (hb.mono HV.size)
  replace K0 := K0.below hb
  replace K1 := K1.below hb
  replace K2 := K2.below hb
  clear hb
  clear c0_0 c0_1 l0
  have c0_0 : u3.cell? ⟨w.heap.size, 0, none⟩ = some (.string A) := K0.cell 0
  have c0_1 : u3.cell? ⟨w.heap.size, 1, none⟩ = some (.string B) := K0.cell 1
  have l0 := K0.lt
  clear c1_0 c1_1 l1
  have c1_0 : u3.cell? ⟨(w.heap.size + 1), 0, none⟩ = some (.bool f) := K1.cell 0
  have c1_1 : u3.cell? ⟨(w.heap.size + 1), 1, none⟩ = some (.string E) := K1.cell 1
  have l1 := K1.lt
  clear c2_0 c2_1 l2
  have c2_0 : u3.cell? ⟨(w.heap.size + 2), 0, none⟩ = some (.string S) := K2.cell 0
  have c2_1 : u3.cell? ⟨(w.heap.size + 2), 1, none⟩ = some (.string E) := K2.cell 1
  have l2 := K2.lt
  go_wp2_with fail
  refine (HW.out _).mono ?_
  rintro e u4 ⟨rfl, hb⟩
  replace HV := HV.trans (hb.mono HV.size)
  replace K0 := K0.below hb
  replace K1 := K1.below hb
  replace K2 := K2.below hb
  clear hb
  clear c0_0 c0_1 l0
  have c0_0 : u4.cell? ⟨w.heap.size, 0, none⟩ = some (.string A) := K0.cell 0
  have c0_1 : u4.cell? ⟨w.heap.size, 1, none⟩ = some (.string B) := K0.cell 1
  have l0 := K0.lt
  clear c1_0 c1_1 l1
  have c1_0 : u4.cell? ⟨(w.heap.size + 1), 0, none⟩ = some (.bool f) := K1.cell 0
  have c1_1 : u4.cell? ⟨(w.heap.size + 1), 1, none⟩ = some (.string E) := K1.cell 1
  have l1 := K1.lt
  clear c2_0 c2_1 l2
  have c2_0 : u4.cell? ⟨(w.heap.size + 2), 0, none⟩ = some (.string S) := K2.cell 0
  have c2_1 : u4.cell? ⟨(w.heap.size + 2), 1, none⟩ = some (.string E) := K2.cell 1
  have l2 := K2.lt
  go_wp2
  go_ret
  exact ⟨rfl, HV⟩
theorem inv_ex9 {u v : Nat} (hv : v ≠ 0) (hg : Nat.gcd u v = 1) : ∃ X : Nat, X < v ∧ u * X % v = 1 % v := by
  obtain ⟨h1, _⟩ := bez_spec v u
  obtain ⟨x, Y, e1, e2, e3⟩ : ∃ x Y : Int, IsExt u v x Y := ⟨_, _, ext_of hv h1⟩
  rw [hg] at e1 e3
  rw [Nat.div_one] at e3
  obtain ⟨X, rfl⟩ := Int.eq_ofNat_of_zero_le e2
  refine ⟨X, by omega, ?_⟩
  have h : ((u * X : Nat) : Int) = 1 + (v : Int) * (-Y) := by rw [Int.natCast_mul, Int.mul_neg]; simp at e1; omega
  have h2 : ((u * X % v : Nat) : Int) = ((1 % v : Nat) : Int) := by
    rw [Int.natCast_emod, h, Int.add_mul_emod_self_left, Int.natCast_emod]
    rfl
  exact Int.ofNat.inj h2
theorem has_unit {p q a : Nat} (h : hasN p q a = true) : Nat.gcd a p = 1 ∧ 2 ≤ p := by
  obtain ⟨h0, h1, h2, h3⟩ := hasN_iff.1 h
  have hp2 : 2 ≤ p := by
    rcases (show p = 0 ∨ p = 1 ∨ 2 ≤ p by omega) with h4 | h4 | h4
    · omega
    · subst h4; omega
    · exact h4
  refine ⟨?_, hp2⟩
  have hd : Nat.gcd a p ∣ a ^ q := Nat.dvd_trans (Nat.gcd_dvd_left a p) (by
    obtain ⟨k, rfl⟩ : ∃ k, q = k + 1 := ⟨q - 1, by omega⟩
    exact ⟨a ^ k, by rw [Nat.pow_succ, Nat.mul_comm]⟩)
  have h5 : Nat.gcd a p ∣ a ^ q % p := (Nat.dvd_mod_iff (Nat.gcd_dvd_right a p)).2 hd
  rw [h3] at h5
  exact Nat.dvd_one.1 h5
theorem both_gpow (A B S E : ByteArray) (f : Bool) (hA : A.size ≤ 9223372036854775807) (hB : B.size ≤ 9223372036854775807) (hS : S.size ≤ 9223372036854775807) (hE : E.size ≤ 9223372036854775807) (h8 : A.size ≤ 8) (h20 : S.size ≤ 20) : ∃ (R : ByteArray) (c : Int),
    (∀ W, Calls Tryz.prog 18 #[.agg #[.string A, .string B], .string S, .agg #[.bool f, .string E]] W (Made W (.tuple #[.string R, .int .i64 c]))) ∧ (∀ W, Calls Tryz.prog 19 #[.agg #[.string A, .string B], .string S, .agg #[.bool f, .string E]] W (Made W (.tuple #[.string R, .int .i64 c]))) := by
  rcases hv : (validB A && validB B && validB S && vI f E) with _ | _
  · refine ⟨⟨#[]⟩, 3, fun W => ?_, fun W => rpow9_form A B S E f W hA hB hS hE hv⟩
    rcases hi : vI f E with _ | _
    · exact ppow_form A B S E f W hE hi
    · exact ppow_bad A B S E f 3 W hE hi (.inl rfl) (cel1_bad hA hB hS (by simpa [hi] using hv))
  · have hv' := hv
    simp only [Bool.and_eq_true] at hv'
    obtain ⟨⟨⟨v1, v2⟩, v3⟩, v4⟩ := hv'
    have v5 : validB E = true := by
      unfold vI at v4
      revert v4
      cases validB E <;> simp
    obtain ⟨p, hp, rfl⟩ := bs_of_valid v1
    obtain ⟨q, hq, rfl⟩ := bs_of_valid v2
    obtain ⟨a, ha, rfl⟩ := bs_of_valid v3
    obtain ⟨k, hk, rfl⟩ := bs_of_valid v5
    rw [bs_le] at h8 h20
    have hc := cel1_ok hp hq ha
    have ra := fun W => rhas_ok p q a W h8 hq ha
    rcases h1 : hasN p q a with _ | _
    · rw [h1] at hc ra
      exact ⟨⟨#[]⟩, 13, fun W => ppow_bad _ _ _ _ f 13 W hE v4 (.inr rfl) hc, fun W => rpow9_grp _ _ _ _ f W hA hB hS hE hv ra⟩
    · rw [h1] at hc ra
      obtain ⟨hg, hp2⟩ := has_unit h1
      have h0 : p ≠ 0 := by omega
      obtain ⟨hq0, _, _, hone⟩ := hasN_iff.1 h1
      have a60 : a < 256 ^ 60 := Nat.lt_of_lt_of_le h20 (Nat.pow_le_pow_right (by decide) (by decide))
      have m60 : p < 256 ^ 60 := Nat.lt_of_lt_of_le h8 (Nat.pow_le_pow_right (by decide) (by decide))
      cases f with
      | false =>
        have hM : ∀ W, Calls Tryz.prog 44 #[.agg #[.bool false, .string (bs k)], .string (bs q)] W (Made W (.tuple #[.string (bs (k % q)), .int .i64 0])) := fun W => by
          have h2 := rimod_ok (x := (k : Int)) (m := q) (by rw [zabs_nat]; exact hk) hq hq0 W
          rw [zneg_nat, zabs_nat, ← Int.natCast_emod, zabs_nat] at h2
          exact h2
        have hX : ∀ W, Calls Tryz.prog 37 #[.string (bs a), .string (bs (k % q)), .string (bs p)] W (Made W (.tuple #[.string (bs (a ^ k % p)), .int .i64 0])) := fun W => by
          have h2 := rExp_ok a (k % q) p W ha (Nat.lt_trans (Nat.mod_lt _ (by omega)) hq) h0 h8
          rwa [pow_red hone] at h2
        exact ⟨_, 0, fun W => ppow_ok _ _ _ _ _ false W hE v4 hc (fun W => mpower_pos a k p W ha hk h0 hp), fun W => rpow9_ok _ _ _ _ _ _ false W hA hB hS hE hv ra hM hX⟩
      | true =>
        have hk0 : k ≠ 0 := by
          rintro rfl
          unfold vI at v4
          rw [bs_isEmpty] at v4
          simp at v4
        obtain ⟨X, hX, hX1⟩ := inv_ex9 h0 hg
        obtain ⟨m, hm⟩ : ∃ m, m = (q - k % q) % q := ⟨_, rfl⟩
        have hmq : m < q := by rw [hm]; exact Nat.mod_lt _ (by omega)
        have hkm : (k + m) % q = 0 := by
          rw [hm, Nat.add_mod, Nat.mod_mod, ← Nat.add_mod, Nat.add_mod, Nat.add_mod_mod]
          have h3 := Nat.mod_lt k (show 0 < q by omega)
          rw [show k % q + (q - k % q) = q from by omega, Nat.mod_self]
        have hz : zabs ((-(k : Int)) % (q : Int)) = m := by
          have h3 : (-(k : Int)) % (q : Int) = (m : Int) := by
            have h4 : ((k + m : Nat) : Int) % (q : Int) = 0 := by rw [← Int.natCast_emod, hkm]; rfl
            have h5 : (-(k : Int)) % (q : Int) = ((m : Int) - ((k + m : Nat) : Int)) % (q : Int) := by congr 1; omega
            rw [h5, Int.sub_emod, h4, Int.sub_zero, Int.emod_emod]
            exact Int.emod_eq_of_lt (by omega) (by omega)
          rw [h3, zabs_nat]
        have hM : ∀ W, Calls Tryz.prog 44 #[.agg #[.bool true, .string (bs k)], .string (bs q)] W (Made W (.tuple #[.string (bs m), .int .i64 0])) := fun W => by
          have hzn : zneg (-(k : Int)) = true := by unfold zneg; simp; omega
          have hza : zabs (-(k : Int)) = k := by unfold zabs; omega
          have h2 := rimod_ok (x := -(k : Int)) (m := q) (by rw [hza]; exact hk) hq hq0 W
          rw [hzn, hza, hz] at h2
          exact h2
        have hXX : ∀ W, Calls Tryz.prog 37 #[.string (bs a), .string (bs m), .string (bs p)] W (Made W (.tuple #[.string (bs (X ^ k % p)), .int .i64 0])) := fun W => by
          have h2 := rExp_ok a m p W ha (Nat.lt_trans hmq hq) h0 h8
          rwa [pow_neg hone hX1 k m hkm] at h2
        exact ⟨_, 0, fun W => ppow_ok _ _ _ _ _ true W hE v4 hc (fun W => mpower_inv a k p X W ha (Nat.lt_trans hX hp) hk hk0 h0 hp (fun W => minverse_ok a p X W a60 m60 h0 hg hX hX1)), fun W => rpow9_ok _ _ _ _ _ _ true W hA hB hS hE hv ra hM hXX⟩
theorem law_gpow (A B S E : ByteArray) (f : Bool) (w : World) (hA : A.size ≤ 9223372036854775807) (hB : B.size ≤ 9223372036854775807) (hS : S.size ≤ 9223372036854775807) (hE : E.size ≤ 9223372036854775807) :
    Calls Tryz.prog 6 #[.agg #[.string A, .string B], .string S, .agg #[.bool f, .string E]] w (Made w (.bool true)) := by
  obtain ⟨b, hF, hb⟩ := few9_two A B S E hA hB hS hE
  cases b with
  | false => exact gpow_no A B S E f w hF
  | true =>
    obtain ⟨h8, _, h20, _⟩ := hb rfl
    obtain ⟨R, c, h1, h2⟩ := both_gpow A B S E f hA hB hS hE h8 h20
    exact gpow_yes A B S E R f c w hF h1 h2
end Go.Proofs.YtmiafkbjmkaebaaGreat
