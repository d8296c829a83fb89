/-
  The contract of the reference's Over at long numbers.
-/
import Derived.Test.YtmiafkbjmkaebaaGreatRefF
namespace Go.Proofs.YtmiafkbjmkaebaaGreat
open Go.RowKit Num

theorem plus_one (r : Nat) (W : World) (h : (bs r).size ≤ 10000) : Calls Tryz.prog 80 #[.string (bs r), .string ⟨#[1]⟩] W (Made W (.string (bs (r + 1)))) := by
  have := plus_any r 1 W h (by rw [bs_one]; show (1 : Nat) ≤ 10000; decide)
  rw [bs_one] at this
  exact this
theorem half_eq (x y : Nat) : x * (y * 2) = x * 2 * y := by
  rw [Nat.mul_comm y 2, ← Nat.mul_assoc]
theorem half_eq1 (x y : Nat) : x * (y * 2) + y = (x * 2 + 1) * y := by
  rw [half_eq, Nat.add_mul, Nat.one_mul]
theorem size_bound {b x k : Nat} (hb : (bs b).size ≤ k) (hx : x ≤ 2 * b + 1) : (bs x).size ≤ k + 1 := by
  rw [bs_le] at hb ⊢
  rw [Nat.pow_succ]
  have := Nat.pow_pos (a := 256) (n := k) (by decide)
  omega

set_option maxHeartbeats 4000000 in
set_option maxRecDepth 100000 in
theorem over_long (a b : Nat) (w : World) (h : 8 < (bs a).size ∨ 8 < (bs b).size) (h1 : (bs a).size ≤ 2000) (h2 : (bs b).size ≤ 2000) (h0 : 0 < b) :
    Calls Tryz.prog 54 #[.string (bs a), .string (bs b)] w (Made w (.tuple #[.string (bs (a / b)), .string (bs (a % b))])) := by
  obtain ⟨i0, hi0, hz0, hz1, hz2⟩ := info_parts info_u8
  obtain ⟨L, hL⟩ : ∃ L, L = (bs a).size := ⟨_, rfl⟩
  have hLi : ((bs a).size : Int) = (L : Int) := by omega
  have hl : L ≤ 2000 := by omega
  have HL := Lib.hid hL
  have HNB : Hid (nb a ≤ 8 * L) := Lib.hid (by
    by_cases ha : a = 0
    · rw [ha, nb_zero]; omega
    · have hp := bs_pos ha
      have := nb_bytes ha hp
      have hl8 : Lib.bitLen ((bs a)[0]).toNat ≤ 8 := Lib.bitLen_le _ 8 (by omega) (byte_lt _)
      omega)
  have HSZ : Hid (∀ x, x ≤ 2 * b + 1 → (bs x).size ≤ 10000) := Lib.hid (fun x hx => Nat.le_trans (size_bound h2 hx) (by omega))
  have hnbb : nb a ≤ 16000 := by have := HNB.out; omega
  have HLT := Lib.hid (show a < 2 ^ nb a from by
    by_cases ha : a = 0
    · rw [ha, nb_zero]; decide
    · exact (nb_bounds ha).2.1)
  have HZ := Lib.hid bs_zero
  clear hL
  have hh : 8 < (bs a).size ∨ ((bs a).size ≤ 8 ∧ 8 < (bs b).size) := by omega
  clear h
  rcases hh with h | ⟨h, h'⟩
  case' inl =>
    go_enter Tryz.func54, Tryz.ntmps54
    go_wp2_with (at_make; refine wpList_make_full _ rfl _ _ 88 rfl w.heap.size 5 i0 (.int .u8 0) 1 Tryz.underlying88 hi0 hz0 hz1 _ _ _ _ L rfl rfl (by omega) (by omega) (by rw [hz2]; omega) (by unfold maxLen; omega) (Nat.le_refl _) ?_; intro w0 hown0 hgrow0)
  case' inr =>
    go_enter Tryz.func54, Tryz.ntmps54
    go_wp2_with (at_make; refine wpList_make_full _ rfl _ _ 88 rfl w.heap.size 5 i0 (.int .u8 0) 1 Tryz.underlying88 hi0 hz0 hz1 _ _ _ _ L rfl rfl (by omega) (by omega) (by rw [hz2]; omega) (by unfold maxLen; omega) (Nat.le_refl _) ?_; intro w0 hown0 hgrow0)
  all_goals
    have hb0 : Below w.heap.size w w0 := (Below.refl _ _).grown hgrow0 (Nat.le_refl _) (fun g hg => by cases hg)
    rw [madeB] at hown0
    have hB0 := Bt.of_own hown0
    clear hown0 hgrow0
    refine (rbits_any a _ (by omega)).mono ?_
    rintro e w' ⟨rfl, rfl⟩
    go_wp2
    go_loopw [9, 10] (fun u v wr => ∃ (j r : Nat) (q : Int) (l : List UInt8), j ≤ nb a ∧ Hid (q = (j : Int) - 1) ∧ -1 ≤ q ∧ q ≤ 16000 ∧ v = .int .i64 q ∧ u = .string (bs r) ∧ Hid (r = a / 2 ^ j % b) ∧ Hid (l.length = L) ∧ Bt wr w.heap.size l ∧ Hid (bval l = a / 2 ^ j / b * 2 ^ j) ∧ Below w.heap.size w wr) (fun _ v _ => (intOf v + 1).toNat)
    case atStart => exact ⟨nb a, 0, (nb a : Int) - 1, _, Nat.le_refl _, Lib.hid rfl, by omega, by omega, rfl, by rw [HZ.out], Lib.hid (by rw [Nat.div_eq_of_lt HLT.out]; simp), Lib.hid List.length_replicate, hB0, Lib.hid (by
      rw [Nat.div_eq_of_lt HLT.out]
      have hz : ∀ m, bval (List.replicate m 0) = 0 := by
        intro m
        induction m with
        | zero => rfl
        | succ m ih => rw [List.replicate_succ, bval_cons, ih]; simp
      rw [hz]; simp), hb0⟩
    case round =>
      obtain ⟨j, r, q, l, hj, HQ, hq1, hq2, rfl, rfl, HR, HLL, hBt, HV, hbel⟩ := hrel
      by_cases hlt : 0 ≤ q
      · obtain ⟨t, rfl⟩ : ∃ t, j = t + 1 := ⟨j - 1, by have := HQ.out; omega⟩
        obtain rfl : q = (t : Int) := by have := HQ.out; omega
        have hrb : r < b := by rw [HR.out]; exact Nat.mod_lt _ h0
        have hgw : w.heap.size < wr.heap.size := hBt.lt
        have HSZ2 : Hid (∀ x, x ≤ 2 * b + 1 → (bs x).size ≤ 100000) := Lib.hid (fun x hx => Nat.le_trans (HSZ.out x hx) (by omega))
        have ht8 : t < 8 * L := by have := HNB.out; omega
        obtain ⟨p, hp⟩ : ∃ p, p + 1 + t / 8 = L := ⟨L - 1 - t / 8, by omega⟩
        have hB : Below wr.heap.size wr wr := Below.refl _ _
        go_wp2_with fail
        refine (plus_any r r _ (HSZ.out _ (by omega)) (HSZ.out _ (by omega))).mono ?_
        rintro e w2 ⟨rfl, hb2⟩
        replace hB := hB.trans (hb2.mono hB.size); clear hb2
        go_wp2_with fail
        refine (one_any a t _ (by omega) (by omega)).mono ?_
        rintro e w' ⟨rfl, rfl⟩
        by_cases hbit : bitB a t = true
        · have HBIT := Lib.hid (show bitB a t = true from hbit)
          have HST := Lib.hid (over_step (r' := r + r + 1) h0 HR.out (by rw [hbit]; simp))
          rw [hbit]
          clear hbit
          go_wp2_with fail
          refine (plus_one (r + r) _ (HSZ.out _ (by omega))).mono ?_
          rintro e w3 ⟨rfl, hb3⟩
          replace hB := hB.trans (hb3.mono hB.size); clear hb3
          go_wp2_with fail
          refine (order_any (r + r + 1) b _ (HSZ2.out _ (by omega))).mono ?_
          rintro e w4 ⟨rfl, hb4⟩
          replace hB := hB.trans (hb4.mono hB.size); clear hb4
          by_cases hge : b ≤ r + r + 1
          · have hc : 0 ≤ cmpN (r + r + 1) b := by unfold cmpN; rw [if_neg (by omega)]; split <;> omega
            have HN := Lib.hid (HST.out.1 hge)
            have HGE := Lib.hid hge
            clear hge
            go_wp2_with fail
            refine (minus_any (r + r + 1) b _ (HSZ.out _ (by omega)) (HSZ.out _ (by omega)) HGE.out).mono ?_
            rintro e w5 ⟨rfl, hb5⟩
            replace hB := hB.trans (hb5.mono hB.size); clear hb5
            have hl5 := hBt.below hB hgw
            have hroom := byte_room (l := l) (p := p) (i := t) (by have := HLL.out; omega) HV.out
            obtain ⟨c, hcd⟩ : ∃ c, c = (l.getD p 0).toNat := ⟨_, rfl⟩
            rw [← hcd] at hroom
            have HROOM := Lib.hid hroom
            have HCD := Lib.hid hcd
            have hpL : p < L := by omega
            clear hroom hcd
            have HTP := Lib.hid (show ((L : Int) - 1 - (t : Int) / 8) = (p : Int) by omega)
            go_wp2
            obtain ⟨wo, rfl⟩ : ∃ wo : World, wo = w5 := ⟨_, rfl⟩
            go_loopw [11, 12] (fun u v wq => ∃ m k : Nat, m ≤ t % 8 ∧ v = .int .i64 m ∧ u = .int .u8 k ∧ Hid (k = 2 ^ m) ∧ k ≤ 128 ∧ wq = wo) (fun _ v _ => 8 - (intOf v).toNat)
            case atStart => exact ⟨0, 1, by omega, rfl, rfl, Lib.hid (by simp), by omega, rfl⟩
            case round =>
              obtain ⟨m, k, hm, rfl, rfl, HKM, hk, rfl⟩ := hrel
              by_cases hmt : m < t % 8
              · have hk64 : k ≤ 64 := by
                  rw [HKM.out]
                  exact Nat.pow_le_pow_right (n := 2) (i := m) (j := 6) (by decide) (by omega)
                go_wp2
                go_roundw
                case rel => exact ⟨m + 1, k * 2, by omega, by go_num, by go_num, Lib.hid (by rw [HKM.out, Nat.pow_succ]), by omega, by trivial⟩
                case measure => simp [intOf]; omega
              · have hme : m = t % 8 := by omega
                have hsum : c + k < 256 := by have := HROOM.out; rw [HKM.out, hme]; exact this
                have hcz := hl5.cell p (by have := HLL.out; omega)
                rw [← HCD.out] at hcz
                have hfr := hl5.frozen p
                have htp : ((L : Int) - 1 - (t : Int) / 8) = (p : Int) := HTP.out
                obtain ⟨d, hd⟩ : ∃ d, d = UInt8.ofNat (c + k) := ⟨_, rfl⟩
                have hdn : d.toNat = c + k := by rw [hd, UInt8.toNat_ofNat']; omega
                have hdi : (c : Int) + (k : Int) = (d.toNat : Int) := by omega
                have hbv : bval (l.set p d) = a / 2 ^ t / b * 2 ^ t := by
                  rw [bval_set_add l p (t / 8) d k (by have := HLL.out; omega) (by rw [hdn, HCD.out]), HV.out, HKM.out, hme, bit_weight, HN.out.2, Nat.pow_succ]
                  exact half_eq1 _ _
                have HBV := Lib.hid hbv
                clear hd hdn hme hbv
                go_wp2
                go_roundw
                case rel => exact ⟨t, r + r + 1 - b, (t : Int) - 1, l.set p d, by omega, Lib.hid rfl, by omega, by omega, rfl, rfl, Lib.hid HN.out.1.symm, Lib.hid (by have := HLL.out; simpa using this), hl5.set _ _, HBV, (hbel.trans (hB.mono hbel.size)).setCell (Nat.le_refl _) _⟩
                case measure => show ((t : Int) - 1 + 1).toNat < ((t : Int) + 1).toNat; omega
          · have hc : cmpN (r + r + 1) b = -1 := by unfold cmpN; rw [if_pos (by omega)]
            rw [hc]
            clear hc
            have HN := Lib.hid (HST.out.2 (by omega))
            have hl5 := hBt.below hB hgw
            have HBV : Hid (bval l = a / 2 ^ t / b * 2 ^ t) := Lib.hid (by rw [HV.out, HN.out.2, Nat.pow_succ]; exact half_eq _ _)
            clear hge
            go_wp2
            go_roundw
            case rel => exact ⟨t, r + r + 1, (t : Int) - 1, l, by omega, Lib.hid rfl, by omega, by omega, rfl, rfl, Lib.hid HN.out.1.symm, HLL, hl5, HBV, hbel.trans (hB.mono hbel.size)⟩
            case measure => show ((t : Int) - 1 + 1).toNat < ((t : Int) + 1).toNat; omega
        · have hbit : bitB a t = false := by simpa using hbit
          have hbit' := hbit
          have HBIT := Lib.hid (show bitB a t = false from hbit)
          clear hbit'
          have HST := Lib.hid (over_step (r' := r + r) h0 HR.out (by rw [hbit]; simp))
          rw [hbit]
          clear hbit
          go_wp2_with fail
          refine (order_any (r + r) b _ (HSZ2.out _ (by omega))).mono ?_
          rintro e w4 ⟨rfl, hb4⟩
          replace hB := hB.trans (hb4.mono hB.size); clear hb4
          by_cases hge : b ≤ r + r
          · have hc : 0 ≤ cmpN (r + r) b := by unfold cmpN; rw [if_neg (by omega)]; split <;> omega
            have HN := Lib.hid (HST.out.1 hge)
            have HGE := Lib.hid hge
            clear hge
            go_wp2_with fail
            refine (minus_any (r + r) b _ (HSZ.out _ (by omega)) (HSZ.out _ (by omega)) HGE.out).mono ?_
            rintro e w5 ⟨rfl, hb5⟩
            replace hB := hB.trans (hb5.mono hB.size); clear hb5
            have hl5 := hBt.below hB hgw
            have hroom := byte_room (l := l) (p := p) (i := t) (by have := HLL.out; omega) HV.out
            obtain ⟨c, hcd⟩ : ∃ c, c = (l.getD p 0).toNat := ⟨_, rfl⟩
            rw [← hcd] at hroom
            have HROOM := Lib.hid hroom
            have HCD := Lib.hid hcd
            have hpL : p < L := by omega
            clear hroom hcd
            have HTP := Lib.hid (show ((L : Int) - 1 - (t : Int) / 8) = (p : Int) by omega)
            go_wp2
            obtain ⟨wo, rfl⟩ : ∃ wo : World, wo = w5 := ⟨_, rfl⟩
            go_loopw [11, 12] (fun u v wq => ∃ m k : Nat, m ≤ t % 8 ∧ v = .int .i64 m ∧ u = .int .u8 k ∧ Hid (k = 2 ^ m) ∧ k ≤ 128 ∧ wq = wo) (fun _ v _ => 8 - (intOf v).toNat)
            case atStart => exact ⟨0, 1, by omega, rfl, rfl, Lib.hid (by simp), by omega, rfl⟩
            case round =>
              obtain ⟨m, k, hm, rfl, rfl, HKM, hk, rfl⟩ := hrel
              by_cases hmt : m < t % 8
              · have hk64 : k ≤ 64 := by
                  rw [HKM.out]
                  exact Nat.pow_le_pow_right (n := 2) (i := m) (j := 6) (by decide) (by omega)
                go_wp2
                go_roundw
                case rel => exact ⟨m + 1, k * 2, by omega, by go_num, by go_num, Lib.hid (by rw [HKM.out, Nat.pow_succ]), by omega, by trivial⟩
                case measure => simp [intOf]; omega
              · have hme : m = t % 8 := by omega
                have hsum : c + k < 256 := by have := HROOM.out; rw [HKM.out, hme]; exact this
                have hcz := hl5.cell p (by have := HLL.out; omega)
                rw [← HCD.out] at hcz
                have hfr := hl5.frozen p
                have htp : ((L : Int) - 1 - (t : Int) / 8) = (p : Int) := HTP.out
                obtain ⟨d, hd⟩ : ∃ d, d = UInt8.ofNat (c + k) := ⟨_, rfl⟩
                have hdn : d.toNat = c + k := by rw [hd, UInt8.toNat_ofNat']; omega
                have hdi : (c : Int) + (k : Int) = (d.toNat : Int) := by omega
                have hbv : bval (l.set p d) = a / 2 ^ t / b * 2 ^ t := by
                  rw [bval_set_add l p (t / 8) d k (by have := HLL.out; omega) (by rw [hdn, HCD.out]), HV.out, HKM.out, hme, bit_weight, HN.out.2, Nat.pow_succ]
                  exact half_eq1 _ _
                have HBV := Lib.hid hbv
                clear hd hdn hme hbv
                go_wp2
                go_roundw
                case rel => exact ⟨t, r + r - b, (t : Int) - 1, l.set p d, by omega, Lib.hid rfl, by omega, by omega, rfl, rfl, Lib.hid HN.out.1.symm, Lib.hid (by have := HLL.out; simpa using this), hl5.set _ _, HBV, (hbel.trans (hB.mono hbel.size)).setCell (Nat.le_refl _) _⟩
                case measure => show ((t : Int) - 1 + 1).toNat < ((t : Int) + 1).toNat; omega
          · have hc : cmpN (r + r) b = -1 := by unfold cmpN; rw [if_pos (by omega)]
            rw [hc]
            clear hc
            have HN := Lib.hid (HST.out.2 (by omega))
            have hl5 := hBt.below hB hgw
            have HBV : Hid (bval l = a / 2 ^ t / b * 2 ^ t) := Lib.hid (by rw [HV.out, HN.out.2, Nat.pow_succ]; exact half_eq _ _)
            clear hge
            go_wp2
            go_roundw
            case rel => exact ⟨t, r + r, (t : Int) - 1, l, by omega, Lib.hid rfl, by omega, by omega, rfl, rfl, Lib.hid HN.out.1.symm, HLL, hl5, HBV, hbel.trans (hB.mono hbel.size)⟩
            case measure => show ((t : Int) - 1 + 1).toNat < ((t : Int) + 1).toNat; omega
      · have hj0 : j = 0 := by have := HQ.out; omega
        subst hj0
        have hq : bval l = a / b := by have := HV.out; simpa using this
        have hr : r = a % b := by have := HR.out; simpa using this
        have HF := Lib.hid (And.intro hq hr)
        clear hq hr
        go_wp2_with fail
        refine (rtrim_any w.heap.size l L _ hBt HLL.out (by omega)).mono ?_
        rintro e w' ⟨rfl, rfl⟩
        go_wp2
        go_ret2
        exact ⟨by rw [HF.out.1, HF.out.2]; rfl, hbel⟩
end Go.Proofs.YtmiafkbjmkaebaaGreat
