/-
  prime.Is, Next, Safe. dominoref04.IsU. dominoref04: U of long strings, Of. dominoref04: Is, Strong, NextU, Next, Safe. dominoref04.FactorsU. dominoref04.Factors, Next; slices.Equal of numbers. dominoref04.Next; slices.Equal of two lists of numbers that are equal.
-/
import Derived.Test.YtmiafkbjmkaebaaGreatPriR
import Derived.Test.YtmiafkbjmkaebaaGreatBlk
import Derived.Test.YtmiafkbjmkaebaaGreatModK
namespace Go.Proofs.YtmiafkbjmkaebaaGreat
open Go.RowKit Num

theorem isPN_two {n : Nat} (h : isPN n = true) : 2 ≤ n := by
  unfold isPN at h
  rw [Bool.and_eq_true] at h
  simpa using h.1
/-- The least number above n that passes the test, below 2^64: 0 if there is none. -/
def NextR (n m : Nat) : Prop := (n < m ∧ m < 18446744073709551616 ∧ isPN m = true ∧ ∀ k, n < k → k < m → isPN k = false) ∨ (m = 0 ∧ ∀ k, n < k → k < 18446744073709551616 → isPN k = false)
theorem least_ex (P : Nat → Prop) : ∀ k, P k → ∃ m, P m ∧ ∀ j, j < m → ¬ P j := by
  intro k
  induction k using Nat.strongRecOn with
  | _ k ih =>
    intro hk
    by_cases h : ∃ j, j < k ∧ P j
    · obtain ⟨j, hj, hp⟩ := h
      exact ih j hj hp
    · exact ⟨k, hk, fun j hj hp => h ⟨j, hj, hp⟩⟩
theorem nextr_ex (n : Nat) : ∃ m, NextR n m := by
  by_cases h : ∃ k, n < k ∧ k < 18446744073709551616 ∧ isPN k = true
  · obtain ⟨k, hk⟩ := h
    obtain ⟨m, hm, hl⟩ := least_ex (fun k => n < k ∧ k < 18446744073709551616 ∧ isPN k = true) k hk
    refine ⟨m, .inl ⟨hm.1, hm.2.1, hm.2.2, fun j h1 h2 => ?_⟩⟩
    rcases hj : isPN j with _ | _
    · rfl
    · exact absurd ⟨h1, Nat.lt_trans h2 hm.2.1, hj⟩ (hl j h2)
  · refine ⟨0, .inr ⟨rfl, fun k h1 h2 => ?_⟩⟩
    rcases hj : isPN k with _ | _
    · rfl
    · exact absurd ⟨k, h1, h2, hj⟩ h

set_option maxHeartbeats 400000 in
set_option maxRecDepth 100000 in
theorem pis_ok (n : Nat) (w : World) (hn : n < 18446744073709551616) :
    Calls Tryz.prog 26 #[.string (bs n)] w (Made w (.tuple #[.bool (isPN n), .int .i64 0])) := by
  have HS := Lib.hid (fun W => psmall_yes n W hn)
  have HP := Lib.hid (fun W => isprime_ok n W hn)
  clear hn
  go_enter Tryz.func26, Tryz.ntmps26
  go_wp2_with fail
  refine (HS.out _).mono ?_
  rintro e w1 ⟨rfl, rfl⟩
  go_wp2_with fail
  refine (HP.out _).mono ?_
  rintro e w2 ⟨rfl, HV⟩
  go_wp2
  go_ret2
  exact ⟨rfl, HV⟩
set_option maxHeartbeats 400000 in
set_option maxRecDepth 100000 in
theorem pis_err (s : ByteArray) (c : Int) (w : World) (hc : c = 3 ∨ c = 5) (h : ∀ W, Calls Tryz.prog 47 #[.string s] W (Same W (.tuple #[.int .u64 0, .int .i64 c]))) :
    Calls Tryz.prog 26 #[.string s] w (Made w (.tuple #[.bool false, .int .i64 c])) := by
  have HS := Lib.hid h
  clear h
  rcases hc with rfl | rfl
  all_goals
    go_enter Tryz.func26, Tryz.ntmps26
    go_wp2_with fail
    refine (HS.out _).mono ?_
    rintro e w1 ⟨rfl, rfl⟩
    go_wp2
    go_ret2
    exact ⟨rfl, Below.refl _ _⟩
end Go.Proofs.YtmiafkbjmkaebaaGreat

namespace Go.Proofs.YtmiafkbjmkaebaaGreat
open Go.RowKit Num QR

theorem isPN_eq {n : Nat} (h2 : 2 ≤ n) (hc : n ∈ firstP) : isPN n = true := by
  unfold isPN
  simp [h2, hc]
theorem isPN_div {n p : Nat} (hp : p ∈ firstP) (hne : n ≠ p) (hd : n % p = 0) : isPN n = false := by
  have hc : n ∉ firstP := by
    intro hc
    have h := firstP_prime n hc
    have h' := firstP_prime p hp
    rcases h.2 p (Nat.dvd_of_mod_eq_zero hd) with h6 | h6
    · have := h'.1
      omega
    · exact hne h6.symm
  have ha : (firstP.all fun p => decide (n % p ≠ 0) && strongN n p) = false := by
    rw [List.all_eq_false]
    exact ⟨p, hp, by simp [hd]⟩
  unfold isPN
  rw [ha]
  simp [hc]
theorem isPN_all {n : Nat} (h2 : 2 ≤ n) (h : ∀ p, p ∈ firstP → n ≠ p ∧ n % p ≠ 0) : isPN n = firstP.all fun p => strongN n p := by
  have hc : n ∉ firstP := fun hc => (h n hc).1 rfl
  have ha : (firstP.all fun p => decide (n % p ≠ 0) && strongN n p) = firstP.all fun p => strongN n p := by
    rw [Bool.eq_iff_iff, List.all_eq_true, List.all_eq_true]
    constructor
    · intro k p hp
      have := k p hp
      rw [Bool.and_eq_true] at this
      exact this.2
    · intro k p hp
      rw [Bool.and_eq_true]
      exact ⟨by simpa using (h p hp).2, k p hp⟩
  unfold isPN
  rw [ha]
  simp [hc, h2]
theorem isPN_small {n : Nat} (h : n < 2) : isPN n = false := by
  unfold isPN
  rw [decide_eq_false (by omega), Bool.false_and]
theorem big_of {n : Nat} (h2 : 2 ≤ n) (h : ∀ p, p ∈ firstP → n ≠ p ∧ n % p ≠ 0) : 37 < n := by
  rcases Nat.lt_or_ge 37 n with h5 | h5
  · exact h5
  · exfalso
    have key : ∀ k, k < 38 → 2 ≤ k → ∃ p, p ∈ firstP ∧ k % p = 0 := by
      have : (List.range 38).all (fun k => decide (k < 2) || firstP.any fun p => decide (k % p = 0)) = true := by decide
      intro k hk hk2
      have := List.all_eq_true.1 this k (List.mem_range.2 hk)
      rw [Bool.or_eq_true, List.any_eq_true] at this
      rcases this with h6 | ⟨p, hp, h6⟩
      · simp at h6
        omega
      · exact ⟨p, hp, by simpa using h6⟩
    obtain ⟨p, hp, h6⟩ := key n (by omega) h2
    exact (h p hp).2 h6
theorem take_next {n p : Nat} {l : List Nat} {i : Nat} (h : ∀ q, q ∈ l.take i → n ≠ q ∧ n % q ≠ 0) (e : l.take (i + 1) = l.take i ++ [p]) (h1 : n ≠ p) (h2 : n % p ≠ 0) : ∀ q, q ∈ l.take (i + 1) → n ≠ q ∧ n % q ≠ 0 := by
  intro q hq
  rw [e, List.mem_append, List.mem_singleton] at hq
  rcases hq with hq | rfl
  · exact h q hq
  · exact ⟨h1, h2⟩

theorem firstP_at {i : Nat} (h : i < 12) : firstP.take (i + 1) = firstP.take i ++ [firstP.getD i 0] ∧ firstP.getD i 0 ∈ firstP ∧ 2 ≤ firstP.getD i 0 ∧ firstP.getD i 0 ≤ 37 ∧ firstP.drop i = firstP.getD i 0 :: firstP.drop (i + 1) := by
  have hk : i = 0 ∨ i = 1 ∨ i = 2 ∨ i = 3 ∨ i = 4 ∨ i = 5 ∨ i = 6 ∨ i = 7 ∨ i = 8 ∨ i = 9 ∨ i = 10 ∨ i = 11 := by omega
  rcases hk with rfl | rfl | rfl | rfl | rfl | rfl | rfl | rfl | rfl | rfl | rfl | rfl <;> decide
theorem cell_at {w : World} {g : Nat} {t : TypeId} (K : Bk w g #[.int .u64 2, .int .u64 3, .int .u64 5, .int .u64 7, .int .u64 11, .int .u64 13, .int .u64 17, .int .u64 19, .int .u64 23, .int .u64 29, .int .u64 31, .int .u64 37] t) {i : Nat} (h : i < 12) : w.cell? ⟨g, i, none⟩ = some (.int .u64 ((firstP.getD i 0 : Nat) : Int)) := by
  have hk : i = 0 ∨ i = 1 ∨ i = 2 ∨ i = 3 ∨ i = 4 ∨ i = 5 ∨ i = 6 ∨ i = 7 ∨ i = 8 ∨ i = 9 ∨ i = 10 ∨ i = 11 := by omega
  rcases hk with rfl | rfl | rfl | rfl | rfl | rfl | rfl | rfl | rfl | rfl | rfl | rfl
  · exact K.cell 0
  · exact K.cell 1
  · exact K.cell 2
  · exact K.cell 3
  · exact K.cell 4
  · exact K.cell 5
  · exact K.cell 6
  · exact K.cell 7
  · exact K.cell 8
  · exact K.cell 9
  · exact K.cell 10
  · exact K.cell 11

set_option maxHeartbeats 8000000 in
set_option maxRecDepth 100000 in
theorem isu_ok (n : Nat) (w : World) (hn : n < 18446744073709551616) :
    Calls Tryz.prog 53 #[.int .u64 (n : Int)] w (Made w (.bool (isPN n))) := by
  obtain ⟨V, hV⟩ : ∃ V, V = isPN n := ⟨_, rfl⟩
  rw [← hV]
  by_cases h2 : n < 2
  · obtain rfl : V = false := by rw [hV, isPN_small h2]
    clear hV hn
    go_enter Tryz.func53, Tryz.ntmps53
    go_wp2
    go_ret
    exact ⟨rfl, Below.refl _ _⟩
  · have h2' : ¬ ((n : Int) < 2) := by omega
    have H2 := Lib.hid (show 2 ≤ n by omega)
    have HSt := Lib.hid (fun (a : Nat) (ha : a < n) W => strongu_ok n a W hn ha)
    have HVV := Lib.hid hV
    clear hV hn h2
    have HV : Below w.heap.size w (w.alloc (.cells #[.int .u64 2, .int .u64 3, .int .u64 5, .int .u64 7, .int .u64 11, .int .u64 13, .int .u64 17, .int .u64 19, .int .u64 23, .int .u64 29, .int .u64 31, .int .u64 37] 61)) := (Below.refl _ _).alloc (Nat.le_refl _) _
    have K := Bk.new w #[.int .u64 2, .int .u64 3, .int .u64 5, .int .u64 7, .int .u64 11, .int .u64 13, .int .u64 17, .int .u64 19, .int .u64 23, .int .u64 29, .int .u64 31, .int .u64 37] 61
    go_enter Tryz.func53, Tryz.ntmps53
    go_wp2
    go_loopw [4] (fun x4 wr => ∃ i : Nat, i ≤ 12 ∧ x4 = .int .i64 i ∧ Hid (∀ q, q ∈ firstP.take i → n ≠ q ∧ n % q ≠ 0) ∧ Bk wr w.heap.size #[.int .u64 2, .int .u64 3, .int .u64 5, .int .u64 7, .int .u64 11, .int .u64 13, .int .u64 17, .int .u64 19, .int .u64 23, .int .u64 29, .int .u64 31, .int .u64 37] 61 ∧ Below w.heap.size w wr) (fun x4 _ => 12 - (intOf x4).toNat)
    case atStart => exact ⟨0, by omega, rfl, Lib.hid (fun q hq => by simp at hq), K, HV⟩
    case round =>
      obtain ⟨i, hi, rfl, HI, K, HV⟩ := hrel
      by_cases hlt : i < 12
      · obtain ⟨f1, f2, f3, f4, f5⟩ := firstP_at hlt
        have hc := cell_at K hlt
        have hg := K.lt
        obtain ⟨p, hp⟩ : ∃ p, p = firstP.getD i 0 := ⟨_, rfl⟩
        rw [← hp] at f1 f2 f3 f4 f5 hc
        have p0 : (p : Int) ≠ 0 := by omega
        by_cases he : n = p
        · obtain rfl : V = true := by rw [HVV.out, isPN_eq H2.out (he ▸ f2)]
          subst he
          clear f1 f2 f3 f4 f5 hp
          go_wp2
          go_ret
          exact ⟨rfl, HV⟩
        · have hne : ((n : Int) == (p : Int)) = false := beq_false_of_ne (by omega)
          obtain ⟨r, hr⟩ : ∃ r, r = n % p := ⟨_, rfl⟩
          have er : (n : Int) % (p : Int) = (r : Int) := by rw [hr, Int.natCast_emod]
          by_cases h0 : r = 0
          · obtain rfl : V = false := by rw [HVV.out, isPN_div f2 he (by rw [← hr, h0])]
            subst h0
            clear f1 f2 f3 f4 f5 hp he hr
            go_wp2
            go_ret
            exact ⟨rfl, HV⟩
          · have HI2 := Lib.hid (take_next HI.out f1 he (by rw [← hr]; exact h0))
            clear f1 f2 f3 f4 f5 hp he hr
            go_wp2
            go_roundw
            case rel => exact ⟨i + 1, by omega, by go_num, HI2, K, HV⟩
            case measure => simp [intOf]; omega
      · obtain rfl : i = 12 := by omega
        have hall : ∀ q, q ∈ firstP → n ≠ q ∧ n % q ≠ 0 := fun q hq => HI.out q (by rw [show firstP.take 12 = firstP from rfl]; exact hq)
        have hbig := big_of H2.out hall
        have HW := Lib.hid (show V = firstP.all fun p => strongN n p from by rw [HVV.out, isPN_all H2.out hall])
        clear hall hi hlt
        rw [show ((12 : Nat) : Int) = 12 from rfl]
        go_wp2
        go_loopw [5] (fun x5 wr => ∃ i : Nat, i ≤ 12 ∧ x5 = .int .i64 i ∧ Hid (V = (firstP.drop i).all fun p => strongN n p) ∧ Bk wr w.heap.size #[.int .u64 2, .int .u64 3, .int .u64 5, .int .u64 7, .int .u64 11, .int .u64 13, .int .u64 17, .int .u64 19, .int .u64 23, .int .u64 29, .int .u64 31, .int .u64 37] 61 ∧ Below w.heap.size w wr) (fun x5 _ => 12 - (intOf x5).toNat)
        case atStart => exact ⟨0, by omega, rfl, Lib.hid (by rw [List.drop_zero]; exact HW.out), K, HV⟩
        case round =>
          obtain ⟨i, hi, rfl, HJ, K, HV⟩ := hrel
          by_cases hlt : i < 12
          · obtain ⟨f1, f2, f3, f4, f5⟩ := firstP_at hlt
            have hc := cell_at K hlt
            have hg := K.lt
            have hv := HJ.out
            obtain ⟨p, hp⟩ : ∃ p, p = firstP.getD i 0 := ⟨_, rfl⟩
            rw [← hp] at f1 f2 f3 f4 f5 hc
            rw [f5, List.all_cons] at hv
            have HSp := Lib.hid (HSt.out p (by omega))
            rcases hs : strongN n p with _ | _
            · rw [hs] at HSp hv
              obtain rfl : V = false := by rw [hv, Bool.false_and]
              clear f1 f2 f3 f4 f5 hp hs hv
              go_wp2_with (go_at_call 76; refine (HSp.out _).mono ?_; rintro e w' ⟨rfl, rfl⟩)
              go_ret
              exact ⟨rfl, HV⟩
            · rw [hs] at HSp hv
              rw [Bool.true_and] at hv
              have HJ2 := Lib.hid hv
              clear f1 f2 f3 f4 f5 hp hs hv
              go_wp2_with (go_at_call 76; refine (HSp.out _).mono ?_; rintro e w' ⟨rfl, rfl⟩)
              go_roundw
              case rel => exact ⟨i + 1, by omega, by go_num, HJ2, K, HV⟩
              case measure => simp [intOf]; omega
          · obtain rfl : i = 12 := by omega
            obtain rfl : V = true := by rw [HJ.out]; rfl
            clear hi hlt
            rw [show ((12 : Nat) : Int) = 12 from rfl]
            go_wp2
            go_ret
            exact ⟨rfl, HV⟩
end Go.Proofs.YtmiafkbjmkaebaaGreat

namespace Go.Proofs.YtmiafkbjmkaebaaGreat
open Go.RowKit Num

set_option maxHeartbeats 400000 in
set_option maxRecDepth 100000 in
theorem u4_no (s : ByteArray) (w : World) (hs : s.size ≤ 1000) (h8 : 8 < s.size) :
    Calls Tryz.prog 52 #[.string s] w fun e w' => ∃ u : Int, e = .returned (.tuple #[.int .u64 u, .bool false]) ∧ w = w' := by
  have hd8 : decide ((s.size : Int) ≤ 8) = false := by simp; omega
  go_enter Tryz.func52, Tryz.ntmps52
  go_wp2
  go_loop [4, 5] (fun m i => ∃ (k : Nat) (u : Int), k ≤ s.size ∧ i = .int .i64 k ∧ m = .int .u64 u) (fun _ i => s.size - (intOf i).toNat)
  case atStart => exact ⟨0, 0, by omega, rfl, rfl⟩
  case round =>
    obtain ⟨k, u, hk, rfl, rfl⟩ := hrel
    by_cases hlt : k < s.size
    · go_wp2
      go_round
      case rel => exact ⟨k + 1, _, by omega, by go_num, rfl⟩
      case measure => simp [intOf]; omega
    · have h3 : k = s.size := by omega
      subst h3
      go_wp2
      go_ret2
      exact ⟨⟨u, rfl⟩, rfl⟩

theorem bs_split {u : Nat} (h : u ≠ 0) : bs u = bs (u / 256) ++ (⟨#[UInt8.ofNat u]⟩ : ByteArray) := by
  unfold bs
  rw [cb_pos h]
  apply ByteArray.ext
  simp
theorem bs0_app (s : ByteArray) : bs 0 ++ s = s := by
  rw [bs_zero]
  apply ByteArray.ext
  simp

end Go.Proofs.YtmiafkbjmkaebaaGreat

namespace Go.Proofs.YtmiafkbjmkaebaaGreat
open Go.RowKit Num

theorem top64 {n : Nat} (h : n < 18446744073709551616) : n < Top := top_le (Nat.le_of_lt h) (by unfold Top; decide)
theorem formed_yes {n : Nat} (h : n < Top) (w : World) : Calls Tryz.prog 51 #[.string (bs n)] w (Same w (.bool true)) := by
  have := formed_any (bs n) w (by have := bs_small h; omega)
  rwa [bs_valid h] at this

set_option maxHeartbeats 400000 in
set_option maxRecDepth 100000 in
theorem ris_ok (n : Nat) (w : World) (hn : n < 18446744073709551616) :
    Calls Tryz.prog 29 #[.string (bs n)] w (Made w (.tuple #[.bool (isPN n), .int .i64 0])) := by
  have HF := Lib.hid (fun W => formed_yes (top64 hn) W)
  have HU := Lib.hid (fun W => u4_yes n W hn)
  have HP := Lib.hid (fun W => isu_ok n W hn)
  clear hn
  go_enter Tryz.func29, Tryz.ntmps29
  go_wp2_with fail
  refine (HF.out _).mono ?_
  rintro e w1 ⟨rfl, rfl⟩
  go_wp2_with fail
  refine (HU.out _).mono ?_
  rintro e w1 ⟨rfl, rfl⟩
  go_wp2_with fail
  refine (HP.out _).mono ?_
  rintro e w2 ⟨rfl, HV⟩
  go_wp2
  go_ret2
  exact ⟨rfl, HV⟩
set_option maxHeartbeats 400000 in
set_option maxRecDepth 100000 in
theorem ris_form (s : ByteArray) (w : World) (hs : s.size ≤ 9223372036854775807) (h : validB s = false) :
    Calls Tryz.prog 29 #[.string s] w (Made w (.tuple #[.bool false, .int .i64 3])) := by
  have HF := Lib.hid (fun W => formed_any s W hs)
  rw [h] at HF
  clear hs h
  go_enter Tryz.func29, Tryz.ntmps29
  go_wp2_with fail
  refine (HF.out _).mono ?_
  rintro e w1 ⟨rfl, rfl⟩
  go_wp2
  go_ret2
  exact ⟨rfl, Below.refl _ _⟩
set_option maxHeartbeats 400000 in
set_option maxRecDepth 100000 in
theorem ris_long (s : ByteArray) (w : World) (hs : s.size ≤ 1000) (h : validB s = true) (h8 : 8 < s.size) :
    Calls Tryz.prog 29 #[.string s] w (Made w (.tuple #[.bool false, .int .i64 5])) := by
  have HF := Lib.hid (fun W => formed_any s W (by omega))
  rw [h] at HF
  have HU := Lib.hid (fun W => u4_no s W hs h8)
  clear hs h h8
  go_enter Tryz.func29, Tryz.ntmps29
  go_wp2_with fail
  refine (HF.out _).mono ?_
  rintro e w1 ⟨rfl, rfl⟩
  go_wp2_with fail
  refine (HU.out _).mono ?_
  rintro e w1 ⟨u, rfl, rfl⟩
  go_wp2
  go_ret2
  exact ⟨rfl, Below.refl _ _⟩

set_option maxHeartbeats 1000000 in
set_option maxRecDepth 100000 in
theorem pstrong_form (s t : ByteArray) (w : World) (hs : s.size ≤ 9223372036854775807) (ht : t.size ≤ 9223372036854775807) (vs vt : Bool) (hvs : validB s = vs) (hvt : validB t = vt) (h : (vs && vt) = false) :
    Calls Tryz.prog 101 #[.string s, .string t] w (Made w (.tuple #[.bool false, .int .i64 3])) := by
  have HF := Lib.hid (fun W => valid_any s W hs)
  have HG := Lib.hid (fun W => valid_any t W ht)
  rw [hvs] at HF
  rw [hvt] at HG
  have h5 : vs = false ∨ (vs = true ∧ vt = false) := by revert h; cases vs <;> cases vt <;> simp
  clear hs ht hvs hvt h
  rcases h5 with rfl | ⟨rfl, rfl⟩
  all_goals
    have tok0 : True := trivial
    go_enter Tryz.func101, Tryz.ntmps101
    go_wp2_with (first
      | (go_at_call 31; clear tok0; refine (HF.out _).mono ?_; rintro e w1 ⟨rfl, rfl⟩)
      | (go_at_call 31; refine (HG.out _).mono ?_; rintro e w1 ⟨rfl, rfl⟩))
    go_ret2
    exact ⟨rfl, Below.refl _ _⟩

end Go.Proofs.YtmiafkbjmkaebaaGreat

namespace Go.Proofs.YtmiafkbjmkaebaaGreat
open Go.RowKit Num

/-- The state of a search for factors: those in l were taken out of N, r is left and has no divisor below p. -/
def FacS (N : Nat) (l : List Nat) (r p : Nat) : Prop := Took N l r ∧ Rough p r ∧ 1 ≤ r ∧ 2 ^ l.length * r ≤ N
theorem FacS.take {N r p : Nat} {l : List Nat} (h : FacS N l r p) (h2 : 2 ≤ p) (hd : r % p = 0) : FacS N (l ++ [p]) (r / p) p := by
  obtain ⟨h1, h3, h4, h5⟩ := h
  have hdv := Nat.dvd_of_mod_eq_zero hd
  refine ⟨h1.snoc (h3.least h2 hdv), h3.quot hdv, Nat.div_pos (Nat.le_of_dvd h4 hdv) (by omega), ?_⟩
  rw [List.length_append, List.length_singleton, Nat.pow_succ, Nat.mul_assoc]
  refine Nat.le_trans (Nat.mul_le_mul_left _ ?_) h5
  exact Nat.le_trans (Nat.mul_le_mul_right _ h2) (Nat.mul_div_le r p)
theorem FacS.len {N r p : Nat} {l : List Nat} (h : FacS N l r p) (hN : N < 1099511627776) : l.length < 40 := by
  obtain ⟨_, _, h4, h5⟩ := h
  have h6 : 2 ^ l.length ≤ N := Nat.le_trans (Nat.le_mul_of_pos_right _ h4) h5
  rcases Nat.lt_or_ge l.length 40 with h7 | h7
  · exact h7
  · exfalso
    have := Nat.pow_le_pow_right (show 0 < 2 by decide) h7
    have h9 : 2 ^ 40 = 1099511627776 := by decide
    omega

theorem cells_snoc (l : List Nat) (d : Nat) : cellsW (l ++ [d]) = cellsW l ++ [.int .u64 (d : Int)] := by simp [cellsW]
theorem new_one (W : World) (t : TypeId) (u : Value) : ∀ (C : Array Value), C[0]? = some u → ∀ (j : Nat) (v : Value), [u][j]? = some v → (W.alloc (.cells C t)).cell? (Addr.add ⟨W.heap.size, 0, none⟩ j) = some v := by
  intro C hC j v hj
  match j, hj with
  | 0, hj =>
    simp at hj; subst hj
    rw [show Addr.add ⟨W.heap.size, 0, none⟩ 0 = ⟨W.heap.size, 0, none⟩ from rfl, World.cell?_alloc_mark]
    exact hC

end Go.Proofs.YtmiafkbjmkaebaaGreat

namespace Go.Proofs.YtmiafkbjmkaebaaGreat
open Go.RowKit Num

def cellsS (l : List Nat) : List Value := l.map fun d => Value.string (bs d)
theorem cellsS_snoc (l : List Nat) (d : Nat) : cellsS (l ++ [d]) = cellsS l ++ [.string (bs d)] := by simp [cellsS]
theorem info_nat : (Tryz.prog.info? 22).map (fun i => (i.zero, i.size, i.bytes)) = some (some (.string ⟨#[]⟩), 1, 16) := by kernel_rfl

/-- A cell of a slice that the call owns. -/
theorem owns_cell {w : World} {base n : Nat} {e : TypeId} {v : Value} {xs : List Value} (h : w.ownsRow base e 1 v n xs) : ∃ (A : Option Addr) (cap : Nat), v = .slice A n cap ∧ ∀ k, k < n → ∃ g, A = some ⟨g, 0, none⟩ ∧ base ≤ g ∧ g < w.heap.size ∧ w.cell? ⟨g, k, none⟩ = xs[k]? := by
  have hl := h.lt
  rcases h.2 with ⟨h1, h2⟩ | ⟨g, cap, cur, hv, hg, hh, h3, h4, h5, h6⟩
  · exact ⟨none, 0, by rw [h1, h2], fun k hk => absurd hk (by omega)⟩
  · refine ⟨some ⟨g, 0, none⟩, cap, hv, fun k hk => ⟨g, rfl, hg, (hl g (by rw [hv]; rfl)).2, ?_⟩⟩
    rw [cell_of_row w g k cur e (0, 0) hh, ← h6, Nat.mul_one, List.getElem?_take_of_lt hk, Array.getElem?_toList]

theorem ownsRow_le' {w : World} {base base' size n : Nat} {e : TypeId} {v : Value} {xs : List Value} (h : w.ownsRow base e size v n xs) (hb : base' ≤ base) : w.ownsRow base' e size v n xs :=
  ⟨h.1, h.2.elim Or.inl (fun ⟨g, cap, cur, hv, hg, r⟩ => Or.inr ⟨g, cap, cur, hv, Nat.le_trans hb hg, r⟩)⟩
theorem fac_le : ∀ {L : List Nat} {n : Nat}, IsFac n L → ∀ {k : Nat}, k < L.length → L.getD k 0 ≤ n := by
  intro L
  induction L with
  | nil => intro n _ k hk; simp at hk
  | cons p t ih =>
    intro n h k hk
    obtain ⟨⟨h2, hd, _⟩, ht⟩ := h
    have hn : 0 < n := by
      rcases Nat.eq_zero_or_pos n with h0 | h0
      · exfalso
        subst h0
        have h9 : ∀ (t : List Nat), ¬ IsFac 0 t := by
          intro t
          induction t with
          | nil => intro h; exact absurd (show (0 : Nat) = 1 from h) (by decide)
          | cons q u ihu => intro h; have := h.2; rw [Nat.zero_div] at this; exact ihu this
        rw [Nat.zero_div] at ht
        exact h9 t ht
      · exact h0
    cases k with
    | zero => simpa using Nat.le_of_dvd hn hd
    | succ k =>
      have := ih ht (k := k) (by simpa using hk)
      simp only [List.getD_cons_succ]
      exact Nat.le_trans this (Nat.div_le_self _ _)
theorem owns_below {w w' : World} {base n : Nat} {e : TypeId} {v : Value} {xs : List Value} (h : w.ownsRow base e 1 v n xs) (hb : Below w.heap.size w w') : w'.ownsRow base e 1 v n xs := by
  have hl := h.lt
  refine ⟨h.1, h.2.imp id ?_⟩
  rintro ⟨g, cap, cur, hv, hg, hh, h3, h4, h5, h6⟩
  exact ⟨g, cap, cur, hv, hg, (hb.block g (hl g (by rw [hv]; rfl)).2).trans hh, h3, h4, h5, h6⟩

end Go.Proofs.YtmiafkbjmkaebaaGreat

namespace Go.Proofs.YtmiafkbjmkaebaaGreat
open Go.RowKit Num

end Go.Proofs.YtmiafkbjmkaebaaGreat
