/-
  dominoref03.Jacobi for canonical arguments and an odd modulus.
-/
import Derived.Test.YtppdolmeeiookaaModAA
namespace Go.Proofs.Ytppdolmeeiookaa
open Go.RowKit Num

theorem bitR_out {a : Nat} (ha : a < Top) (i : Int) (w : World) (hi0 : 0 ≤ i) (hi : (nb a : Int) ≤ i) : Calls Try.prog 37 #[.string (bs a), .int .i64 i] w (Same w (.bool false)) := by
  have hs := bs_small ha
  have HA := Lib.hid ha
  clear ha
  go_enter Try.func37, Try.ntmps37
  go_wp2_with (first | (go_at_call 15; refine (rvalid_yes HA.out _).mono ?_; rintro e w' ⟨rfl, rfl⟩) | (go_at_call 62; refine (rbits_any a _ (by omega)).mono ?_; rintro e w' ⟨rfl, rfl⟩))
  go_ret
  exact ⟨rfl, rfl⟩
theorem bitR_in {a : Nat} (ha : a < Top) (i : Nat) (w : World) (hi : i < nb a) : Calls Try.prog 37 #[.string (bs a), .int .i64 i] w (Same w (.bool (bitB a i))) := by
  have hs := bs_small ha
  have hlt := nb_size hi
  have HA := Lib.hid ha
  have hii : (i : Int) < (nb a : Int) := by omega
  have h8 : i ≤ 100000 := by omega
  have HD : Hid (decide (i < nb a) = true) := Lib.hid (by simpa using hi)
  have hd := HD.out
  clear ha
  go_enter Try.func37, Try.ntmps37
  go_wp2_with (first | (go_at_call 15; refine (rvalid_yes HA.out _).mono ?_; rintro e w' ⟨rfl, rfl⟩) | (go_at_call 62; refine (rbits_any a _ (by omega)).mono ?_; rintro e w' ⟨rfl, rfl⟩) | (go_at_call 63; refine (one_any a i _ (by omega) (by omega)).mono ?_; rintro e w' ⟨rfl, rfl⟩))
  go_ret
  exact ⟨rfl, rfl⟩
theorem bitR_all {a : Nat} (ha : a < Top) (i : Nat) (w : World) : Calls Try.prog 37 #[.string (bs a), .int .i64 i] w (Same w (.bool (bitB a i))) := by
  by_cases h : i < nb a
  · exact bitR_in ha i w h
  · have : bitB a i = false := by
      rcases hb : bitB a i with _ | _
      · rfl
      · exact absurd (bit_nb hb) h
    rw [this]
    exact bitR_out ha i w (by omega) (by omega)

theorem tz_even {x : Nat} (h0 : x ≠ 0) (h : x % 2 = 0) : tzN x = tzN (x / 2) + 1 ∧ x / 2 ^ tzN x = x / 2 / 2 ^ tzN (x / 2) := by
  have e : tzN x = tzN (x / 2) + 1 := by
    conv => lhs; unfold tzN
    rw [dif_pos ⟨h0, h⟩]
  refine ⟨e, ?_⟩
  rw [e, Nat.pow_succ, Nat.mul_comm, ← Nat.div_div_eq_div_mul]
theorem tz_odd {x : Nat} (h : x % 2 = 1) : tzN x = 0 ∧ x / 2 ^ tzN x = x := by
  have e : tzN x = 0 := by
    unfold tzN
    rw [dif_neg (by omega)]
  exact ⟨e, by rw [e]; simp⟩
theorem fl_bits {n : Nat} (h : n % 2 = 1) : (bitB n 1 ≠ bitB n 2) ↔ (n % 8 = 3 ∨ n % 8 = 5) := by
  unfold bitB
  rw [show 2 ^ 1 = 2 from rfl, show 2 ^ 2 = 4 from rfl]
  have h8 : n % 8 = 1 ∨ n % 8 = 3 ∨ n % 8 = 5 ∨ n % 8 = 7 := by omega
  rcases h8 with h8 | h8 | h8 | h8
  · rw [show n / 2 % 2 = 0 from by omega, show n / 4 % 2 = 0 from by omega]; simp [h8]
  · rw [show n / 2 % 2 = 1 from by omega, show n / 4 % 2 = 0 from by omega]; simp [h8]
  · rw [show n / 2 % 2 = 0 from by omega, show n / 4 % 2 = 1 from by omega]; simp [h8]
  · rw [show n / 2 % 2 = 1 from by omega, show n / 4 % 2 = 1 from by omega]; simp [h8]

theorem flip_next {t u : Nat} {F : Prop} [Decidable F] {s s1 : Int} (hu : u = t + 1) (h : (if u % 2 = 1 ∧ F then -s else s) = s1) : (if t % 2 = 1 ∧ F then -(if F then -s else s) else (if F then -s else s)) = s1 := by
  subst hu
  by_cases hF : F
  · rcases (show t % 2 = 0 ∨ t % 2 = 1 by omega) with ht | ht
    · have : (t + 1) % 2 = 1 := by omega
      simpa [hF, ht, this] using h
    · have : (t + 1) % 2 = 0 := by omega
      simpa [hF, ht, this] using h
  · simpa [hF] using h

set_option maxHeartbeats 4000000 in
set_option maxRecDepth 100000 in
theorem rjacobi_ok (a n : Nat) (w : World) (ha : a < Top) (hn : n < Top) (ho : n % 2 = 1) :
    Calls Try.prog 12 #[.string (bs a), .string (bs n)] w (Made w (.tuple #[.int .i64 (jacL (n + 1) 1 (a % n) n), .int .i64 0])) := by
  have HC : Hid (∀ (W : World) (g : Nat), W.cell? ⟨g, 0, none⟩ = some (.string (bs a)) → W.cell? ⟨g, 1, none⟩ = some (.string (bs n)) → g < W.heap.size → Calls Try.prog 36 #[.slice (some ⟨g, 0, none⟩) 2 2] W (Same W (.int .i64 0))) := Lib.hid (fun (W : World) (g : Nat) (h1 : W.cell? ⟨g, 0, none⟩ = some (.string (bs a))) (h2 : W.cell? ⟨g, 1, none⟩ = some (.string (bs n))) (h3 : g < W.heap.size) => rcheck_any 2 (fun i => if i = 0 then bs a else bs n) g W true false (.inl rfl) (fun i _ => by have := bs_small ha; have := bs_small hn; split <;> omega) (fun i hi => by
    rcases (show i = 0 ∨ i = 1 by omega) with rfl | rfl
    · exact h1
    · exact h2) h3 ⟨fun _ i _ => by split <;> exact bs_valid ‹_›, fun _ => rfl⟩ (fun _ => by show (bs n).toList.isEmpty = false; rw [bs_isEmpty]; exact beq_false_of_ne (by omega)))
  have HB := Lib.hid (fun (x : Nat) (h : x < Top) (i : Nat) (W : World) => bitR_all h i W)
  have HB0 : Hid (∀ W, Calls Try.prog 37 #[.string (bs n), .int .i64 0] W (Same W (.bool true))) := Lib.hid (fun W => by have := bitR_all hn 0 W; rw [show bitB n 0 = true from by unfold bitB; rw [Nat.pow_zero, Nat.div_one, ho]; rfl] at this; exact this)
  have HR := Lib.hid (fun (x y : Nat) (hx : x < Top) (hy : y < Top) (h0 : y ≠ 0) (W : World) => rmod3 x y W hx hy h0)
  have HR0 := Lib.hid (fun W => rmod3 a n W ha hn (by omega))
  have HO : Hid (∀ W, Calls Try.prog 31 #[.int .u64 1] W (Made W (.string (bs 1)))) := Lib.hid (fun W => rof_any 1 W (by decide))
  have HO2 : Hid (∀ W, Calls Try.prog 31 #[.int .u64 2] W (Made W (.string (bs 2)))) := Lib.hid (fun W => rof_any 2 W (by decide))
  have HO8 : Hid (∀ W, Calls Try.prog 31 #[.int .u64 8] W (Made W (.string (bs 8)))) := Lib.hid (fun W => rof_any 8 W (by decide))
  obtain ⟨V, hVal⟩ : ∃ V, V = jacL (n + 1) 1 (a % n) n := ⟨_, rfl⟩
  rw [← hVal]
  have HS := Lib.hid (show a % n < n ∧ n < Top ∧ n % 2 = 1 ∧ a % n < n + 1 ∧ jacL (n + 1) 1 (a % n) n = V from by
    have := Nat.mod_lt a (show n > 0 by omega)
    exact ⟨this, hn, ho, by omega, hVal.symm⟩)
  clear hVal ha hn ho
  go_enter Try.func12, Try.ntmps12
  go_wp2_with fail
  have K0 := Bk.new w #[.string (bs a), .string (bs n)] 24
  refine (HC.out _ _ (K0.cell 0) (K0.cell 1) K0.lt).mono ?_
  rintro e w' ⟨rfl, rfl⟩
  have HV : Below w.heap.size w (w.alloc (.cells #[.string (bs a), .string (bs n)] 24)) := (Below.refl _ _).alloc (Nat.le_refl _) _
  clear K0
  go_wp2_with fail
  refine (HB0.out _).mono ?_
  rintro e w1 ⟨rfl, rfl⟩
  go_wp2_with fail
  refine (HR0.out _).mono ?_
  rintro e w2 ⟨rfl, hb⟩
  replace HV := HV.trans (hb.mono HV.size)
  clear hb
  clear HC HB0 HR0
  obtain ⟨a0, ha0⟩ : ∃ x, x = a % n := ⟨_, rfl⟩
  rw [← ha0] at HS ⊢
  clear ha0
  go_wp2
  go_loopw [0, 1, 7] (fun x0 x1 x7 wr => ∃ (a' n' f : Nat) (s : Int), x0 = .string (bs a') ∧ x1 = .string (bs n') ∧ x7 = .int .i64 s ∧ Hid (s = 1 ∨ s = -1) ∧ Hid (a' < n' ∧ n' < Top ∧ n' % 2 = 1 ∧ a' < f ∧ jacL f s a' n' = V) ∧ Below w.heap.size w wr) (fun x0 _ _ _ => strVal x0)
  case atStart => exact ⟨a0, n, n + 1, 1, rfl, rfl, rfl, Lib.hid (.inl rfl), HS, HV⟩
  case round =>
    obtain ⟨a', n', f, s, rfl, rfl, rfl, Hs, Hr, hBel⟩ := hrel
    by_cases h0 : a' = 0
    · subst h0
      have hz : (bs 0).toList.isEmpty = true := by rw [bs_isEmpty]; rfl
      have hJ : V = if n' = 1 then s else 0 := by rw [← Hr.out.2.2.2.2]; exact jac_end (by have := Hr.out.2.2.2.1; omega)
      by_cases h1 : n' = 1
      · have hq : ((bs n').toList == (bs 1).toList) = true := by rw [bs_beq, h1]; rfl
        rw [if_pos h1] at hJ
        subst hJ
        clear h1
        go_wp2_with fail
        refine (HO.out _).mono ?_
        rintro e u1 ⟨rfl, hb⟩
        go_wp2
        go_ret2
        exact ⟨rfl, hBel.trans (hb.mono hBel.size)⟩
      · have hq : ((bs n').toList == (bs 1).toList) = false := by rw [bs_beq]; exact beq_false_of_ne h1
        rw [if_neg h1] at hJ
        subst hJ
        clear h1
        go_wp2_with fail
        refine (HO.out _).mono ?_
        rintro e u1 ⟨rfl, hb⟩
        go_wp2
        go_ret2
        exact ⟨rfl, hBel.trans (hb.mono hBel.size)⟩
    · have hz : (bs a').toList.isEmpty = false := by rw [bs_isEmpty]; exact beq_false_of_ne h0
      obtain ⟨f', hf', hJ⟩ := jac_step (s := s) (n := n') h0 Hr.out.2.2.2.1
      rw [Hr.out.2.2.2.2] at hJ
      have haT : a' < Top := Nat.lt_trans Hr.out.1 Hr.out.2.1
      have hnT : n' < Top := Hr.out.2.1
      have hd0 : a' / 2 ^ tzN a' ≠ 0 := by have := (tzN_spec a' h0).2; omega
      have hdo := (tzN_spec a' h0).2
      have hda : a' / 2 ^ tzN a' ≤ a' := Nat.div_le_self _ _
      have hflb := fl_bits Hr.out.2.2.1
      obtain ⟨r8, hr8⟩ : ∃ x, x = n' % 8 := ⟨_, rfl⟩
      have hr8' : r8 = 1 ∨ r8 = 3 ∨ r8 = 5 ∨ r8 = 7 := by have := Hr.out.2.2.1; omega
      obtain ⟨s1, hs1⟩ : ∃ x, x = (if tzN a' % 2 = 1 ∧ bitB n' 1 ≠ bitB n' 2 then -s else s) := ⟨_, rfl⟩
      rw [← hs1] at hJ
      rw [← hr8] at hflb
      have hs1' : (if tzN a' % 2 = 1 ∧ (r8 = 3 ∨ r8 = 5) then -s else s) = s1 := by rw [hs1]; simp only [hflb]
      obtain ⟨d, hd⟩ : ∃ d, d = a' / 2 ^ tzN a' := ⟨_, rfl⟩
      rw [← hd] at hd0 hdo hda hJ
      have dT : d < Top := Nat.lt_of_le_of_lt hda haT
      have HRd := Lib.hid (HR.out n' d hnT dT hd0)
      have HR8 := Lib.hid (fun W => HR.out n' 8 hnT (by unfold Top; decide) (by decide) W)
      rw [← hr8] at HR8
      have HSm := Lib.hid (fun W => rsmall_yes r8 W (by omega))
      have HBd : Hid (∀ W, Calls Try.prog 37 #[.string (bs d), .int .i64 1] W (Same W (.bool (bitB d 1)))) := Lib.hid (fun W => HB.out d dT 1 W)
      have HB1 : Hid (∀ W, Calls Try.prog 37 #[.string (bs n'), .int .i64 1] W (Same W (.bool (bitB n' 1)))) := Lib.hid (fun W => HB.out n' hnT 1 W)
      have HBx := Lib.hid (fun (x : Nat) (hx : x ≤ a') (W : World) => (show Calls Try.prog 37 #[.string (bs x), .int .i64 0] W (Same W (.bool (bitB x 0))) from HB.out x (Nat.lt_of_le_of_lt hx haT) 0 W))
      have HDv := Lib.hid (fun (x : Nat) (hx : x ≤ a') (W : World) => rdivmod_ok (Nat.lt_of_le_of_lt hx haT) (show 2 < Top by unfold Top; decide) (by decide) W)
      have HD := Lib.hid (show n' % d < d ∧ d < Top ∧ d % 2 = 1 ∧ n' % d < f' from by
        have := Nat.mod_lt n' (show d > 0 by omega)
        have := Hr.out.2.2.2.1
        exact ⟨by omega, by omega, hdo, by omega⟩)
      have HM := Lib.hid (show n' % d < a' from by have := HD.out.1; omega)
      have HJ := Lib.hid hJ
      have HA0 := Lib.hid (show a' ≠ 0 ∧ a' ≤ a' ∧ a' / 2 ^ tzN a' = d ∧ (if tzN a' % 2 = 1 ∧ (r8 = 3 ∨ r8 = 5) then -s else s) = s1 from ⟨h0, Nat.le_refl _, hd.symm, hs1'⟩)
      generalize bitB d 1 = y1 at *
      generalize bitB n' 1 = x1 at *
      clear hJ hd0 hdo hda haT hnT h0 hd hf' Hr HB HR hs1 hs1' hflb hr8 dT
      go_wp2
      go_loopw [0, 7] (fun x0 x7 wr => ∃ (x : Nat) (s' : Int), x0 = .string (bs x) ∧ x7 = .int .i64 s' ∧ Hid (s' = 1 ∨ s' = -1) ∧ Hid (x ≠ 0 ∧ x ≤ a' ∧ x / 2 ^ tzN x = d ∧ (if tzN x % 2 = 1 ∧ (r8 = 3 ∨ r8 = 5) then -s' else s') = s1) ∧ Below w.heap.size w wr) (fun x0 _ _ => strVal x0)
      case atStart => exact ⟨a', s, rfl, rfl, Hs, HA0, hBel⟩
      case round =>
        obtain ⟨x, s', rfl, rfl, Hs', HX, hBel⟩ := hrel
        have HBx0 := Lib.hid (HBx.out x HX.out.2.1)
        by_cases hev : x % 2 = 0
        · rw [show bitB x 0 = false from by unfold bitB; rw [Nat.pow_zero, Nat.div_one, hev]; rfl] at HBx0
          have HDx := Lib.hid (HDv.out x HX.out.2.1)
          have HX2 : Hid (x / 2 ≠ 0 ∧ x / 2 ≤ a' ∧ x / 2 / 2 ^ tzN (x / 2) = d ∧ (if tzN (x / 2) % 2 = 1 ∧ (r8 = 3 ∨ r8 = 5) then -(if (r8 = 3 ∨ r8 = 5) then -s' else s') else (if (r8 = 3 ∨ r8 = 5) then -s' else s')) = s1) := by
            obtain ⟨k1, k2, k3, k4⟩ := HX.out
            obtain ⟨g1, g2⟩ := tz_even k1 hev
            exact Lib.hid ⟨by omega, by omega, by rw [← g2]; exact k3, flip_next g1 k4⟩
          have HX3 := Lib.hid (show x / 2 < x from by have := HX.out.1; omega)
          clear hev HX HBx HDv
          rcases hr8' with rfl | rfl | rfl | rfl <;> rcases Hs'.out with rfl | rfl
          all_goals
            go_wp2_with (first
              | (go_at_call 37; refine (HBx0.out _).mono ?_; rintro e v1 ⟨rfl, rfl⟩)
              | (go_at_call 31; (with_reducible refine (HO2.out _).mono ?_); rintro e v2 ⟨rfl, hb⟩; replace hBel := hBel.trans (hb.mono hBel.size); clear hb)
              | (go_at_call 31; (with_reducible refine (HO8.out _).mono ?_); rintro e v3 ⟨rfl, hb⟩; replace hBel := hBel.trans (hb.mono hBel.size); clear hb)
              | (go_at_call 38; refine (HDx.out _).mono ?_; rintro e v4 ⟨rfl, hb⟩; replace hBel := hBel.trans (hb.mono hBel.size); clear hb)
              | (go_at_call 19; refine (HR8.out _).mono ?_; rintro e v5 ⟨rfl, hb⟩; replace hBel := hBel.trans (hb.mono hBel.size); clear hb)
              | (go_at_call 39; refine (HSm.out _).mono ?_; rintro e v6 ⟨rfl, rfl⟩))
            go_roundw
            case rel => exact ⟨x / 2, _, rfl, rfl, Lib.hid (by simp), Lib.hid ⟨HX2.out.1, HX2.out.2.1, HX2.out.2.2.1, by simpa using HX2.out.2.2.2⟩, hBel⟩
            case measure => simp only [strVal_bs]; exact HX3.out
        · have hod : x % 2 = 1 := by omega
          rw [show bitB x 0 = true from by unfold bitB; rw [Nat.pow_zero, Nat.div_one, hod]; rfl] at HBx0
          obtain ⟨rfl, rfl⟩ : x = d ∧ s' = s1 := by
            obtain ⟨_, _, h3, h4⟩ := HX.out
            obtain ⟨g1, g2⟩ := tz_odd hod
            rw [g2] at h3
            rw [g1] at h4
            simp at h4
            exact ⟨h3, h4⟩
          clear hev hod HX HBx HDv
          rcases Hs'.out with rfl | rfl <;> cases y1 <;> cases x1
          all_goals
            go_wp2_with (first
              | (go_at_call 37; (with_reducible refine (HBx0.out _).mono ?_); rintro e v1 ⟨rfl, rfl⟩)
              | (go_at_call 37; (with_reducible refine (HBd.out _).mono ?_); rintro e v2 ⟨rfl, rfl⟩)
              | (go_at_call 37; (with_reducible refine (HB1.out _).mono ?_); rintro e v3 ⟨rfl, rfl⟩)
              | (go_at_call 19; refine (HRd.out _).mono ?_; rintro e v5 ⟨rfl, hb⟩; replace hBel := hBel.trans (hb.mono hBel.size); clear hb))
            go_roundw
            case rel => exact ⟨n' % x, x, f', _, rfl, rfl, rfl, Lib.hid (by simp), Lib.hid ⟨HD.out.1, HD.out.2.1, HD.out.2.2.1, HD.out.2.2.2, by rw [HJ.out]; simp⟩, hBel⟩
            case measure => simp only [strVal_bs]; exact HM.out
end Go.Proofs.Ytppdolmeeiookaa
