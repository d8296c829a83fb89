/-
  prime.Is, Next, Safe. dominoref04.IsU. dominoref04: U of long strings, Of. dominoref04: Is, Strong, NextU, Next, Safe. dominoref04.FactorsU. dominoref04.Factors, Next; slices.Equal of numbers. dominoref04.Next; slices.Equal of two lists of numbers that are equal.
-/
import Derived.Test.YtnnohjabneepiaaPriR
import Derived.Test.YtnnohjabneepiaaBlk
import Derived.Test.YtnnohjabneepiaaModK
namespace Go.Proofs.Ytnnohjabneepiaa
open Go.RowKit Num

theorem isPN_two {n : Nat} (h : isPN n = true) : 2 ≤ n := by
  unfold isPN at h
  rw [Bool.and_eq_true] at h
  simpa using h.1
/-- The least number above n that passes the test, below 2^64: 0 if there is none. -/
def NextR (n m : Nat) : Prop := (n < m ∧ m < 18446744073709551616 ∧ isPN m = true ∧ ∀ k, n < k → k < m → isPN k = false) ∨ (m = 0 ∧ ∀ k, n < k → k < 18446744073709551616 → isPN k = false)
theorem least_ex (P : Nat → Prop) : ∀ k, P k → ∃ m, P m ∧ ∀ j, j < m → ¬ P j := by
  intro k
  induction k using Nat.strongRecOn with
  | _ k ih =>
    intro hk
    by_cases h : ∃ j, j < k ∧ P j
    · obtain ⟨j, hj, hp⟩ := h
      exact ih j hj hp
    · exact ⟨k, hk, fun j hj hp => h ⟨j, hj, hp⟩⟩
theorem nextr_ex (n : Nat) : ∃ m, NextR n m := by
  by_cases h : ∃ k, n < k ∧ k < 18446744073709551616 ∧ isPN k = true
  · obtain ⟨k, hk⟩ := h
    obtain ⟨m, hm, hl⟩ := least_ex (fun k => n < k ∧ k < 18446744073709551616 ∧ isPN k = true) k hk
    refine ⟨m, .inl ⟨hm.1, hm.2.1, hm.2.2, fun j h1 h2 => ?_⟩⟩
    rcases hj : isPN j with _ | _
    · rfl
    · exact absurd ⟨h1, Nat.lt_trans h2 hm.2.1, hj⟩ (hl j h2)
  · refine ⟨0, .inr ⟨rfl, fun k h1 h2 => ?_⟩⟩
    rcases hj : isPN k with _ | _
    · rfl
    · exact absurd ⟨k, h1, h2, hj⟩ h

set_option maxHeartbeats 400000 in
set_option maxRecDepth 100000 in
theorem pis_ok (n : Nat) (w : World) (hn : n < 18446744073709551616) :
    Calls Try.prog 13 #[.string (bs n)] w (Made w (.tuple #[.bool (isPN n), .int .i64 0])) := by
  have HS := Lib.hid (fun W => psmall_yes n W hn)
  have HP := Lib.hid (fun W => isprime_ok n W hn)
  clear hn
  go_enter Try.func13, Try.ntmps13
  go_wp2_with fail
  refine (HS.out _).mono ?_
  rintro e w1 ⟨rfl, rfl⟩
  go_wp2_with fail
  refine (HP.out _).mono ?_
  rintro e w2 ⟨rfl, HV⟩
  go_wp2
  go_ret2
  exact ⟨rfl, HV⟩
set_option maxHeartbeats 400000 in
set_option maxRecDepth 100000 in
theorem pis_err (s : ByteArray) (c : Int) (w : World) (hc : c = 3 ∨ c = 5) (h : ∀ W, Calls Try.prog 27 #[.string s] W (Same W (.tuple #[.int .u64 0, .int .i64 c]))) :
    Calls Try.prog 13 #[.string s] w (Made w (.tuple #[.bool false, .int .i64 c])) := by
  have HS := Lib.hid h
  clear h
  rcases hc with rfl | rfl
  all_goals
    go_enter Try.func13, Try.ntmps13
    go_wp2_with fail
    refine (HS.out _).mono ?_
    rintro e w1 ⟨rfl, rfl⟩
    go_wp2
    go_ret2
    exact ⟨rfl, Below.refl _ _⟩
set_option maxHeartbeats 400000 in
set_option maxRecDepth 100000 in
theorem psafe_err (s : ByteArray) (c : Int) (w : World) (hc : c = 3 ∨ c = 5) (h : ∀ W, Calls Try.prog 27 #[.string s] W (Same W (.tuple #[.int .u64 0, .int .i64 c]))) :
    Calls Try.prog 22 #[.string s] w (Made w (.tuple #[.bool false, .int .i64 c])) := by
  have HS := Lib.hid h
  clear h
  rcases hc with rfl | rfl
  all_goals
    go_enter Try.func22, Try.ntmps22
    go_wp2_with fail
    refine (HS.out _).mono ?_
    rintro e w1 ⟨rfl, rfl⟩
    go_wp2
    go_ret2
    exact ⟨rfl, Below.refl _ _⟩
set_option maxHeartbeats 400000 in
set_option maxRecDepth 100000 in
theorem pnext_err (s : ByteArray) (c : Int) (w : World) (hc : c = 3 ∨ c = 5) (h : ∀ W, Calls Try.prog 27 #[.string s] W (Same W (.tuple #[.int .u64 0, .int .i64 c]))) :
    Calls Try.prog 19 #[.string s] w (Made w (.tuple #[.string ⟨#[]⟩, .int .i64 c])) := by
  have HS := Lib.hid h
  clear h
  rcases hc with rfl | rfl
  all_goals
    go_enter Try.func19, Try.ntmps19
    go_wp2_with fail
    refine (HS.out _).mono ?_
    rintro e w1 ⟨rfl, rfl⟩
    go_wp2
    go_ret2
    exact ⟨rfl, Below.refl _ _⟩
set_option maxHeartbeats 1000000 in
set_option maxRecDepth 100000 in
theorem psafe_ok (n : Nat) (w : World) (hn : n < 18446744073709551616) :
    Calls Try.prog 22 #[.string (bs n)] w (Made w (.tuple #[.bool (isPN n && isPN ((n - 1) / 2)), .int .i64 0])) := by
  have HS := Lib.hid (fun W => psmall_yes n W hn)
  have HP := Lib.hid (fun W => isprime_ok n W hn)
  rcases hp : isPN n with _ | _
  · rw [hp] at HP
    clear hn hp
    go_enter Try.func22, Try.ntmps22
    go_wp2_with fail
    refine (HS.out _).mono ?_
    rintro e w1 ⟨rfl, rfl⟩
    go_wp2_with fail
    refine (HP.out _).mono ?_
    rintro e w2 ⟨rfl, HV⟩
    go_wp2
    go_ret2
    exact ⟨rfl, HV⟩
  · rw [hp] at HP
    have h2 := isPN_two hp
    obtain ⟨h, hh⟩ : ∃ h, h = (n - 1) / 2 := ⟨_, rfl⟩
    obtain ⟨l, hl⟩ : ∃ l, l = n - 1 := ⟨_, rfl⟩
    have el : (n : Int) - 1 = (l : Int) := by omega
    have wl : IntKind.u64.wrap (l : Int) = (l : Int) := by rw [IntKind.wrap_u64]; omega
    have wl2 : IntKind.u64.wrap ((n : Int) - 1) = (l : Int) := by rw [el, wl]
    have eh : (l : Int) / 2 = (h : Int) := by omega
    have et : (l : Int).tdiv 2 = (h : Int) := by rw [Int.tdiv_eq_ediv_of_nonneg (by omega)]; omega
    have wh : IntKind.u64.wrap (h : Int) = (h : Int) := by rw [IntKind.wrap_u64]; omega
    have HP2 := Lib.hid (fun W => isprime_ok h W (by omega))
    rw [← hh]
    generalize isPN h = q at *
    clear hn hp hh hl h2
    have tok0 : True := trivial
    have HV := Below.refl w.heap.size w
    go_enter Try.func22, Try.ntmps22
    go_wp2_with (first
      | (go_at_call 27; refine (HS.out _).mono ?_; rintro e w1 ⟨rfl, rfl⟩)
      | (go_at_call 28; clear tok0; refine (HP.out _).mono ?_; rintro e w2 ⟨rfl, hb⟩; replace HV := HV.trans (hb.mono HV.size); clear hb)
      | (go_at_call 28; (with_reducible refine (HP2.out _).mono ?_); rintro e w3 ⟨rfl, hb⟩; replace HV := HV.trans (hb.mono HV.size); clear hb))
    go_ret2
    exact ⟨by simp, HV⟩

set_option maxHeartbeats 1000000 in
set_option maxRecDepth 100000 in
theorem pnext_ok (n m : Nat) (w : World) (hn : n < 18446744073709551616) (hm : NextR n m) :
    Calls Try.prog 19 #[.string (bs n)] w (Made w (.tuple #[.string (bs m), .int .i64 (if m = 0 then 5 else 0)])) := by
  have HS := Lib.hid (fun W => psmall_yes n W hn)
  have HP := Lib.hid (fun (k : Nat) (hk : k < 18446744073709551616) W => isprime_ok k W hk)
  have HN := Lib.hid hn
  have HO := Lib.hid (fun (k : Nat) (hk : k < 18446744073709551616) W => of_any k hk W)
  rcases hm with ⟨h1, h2, h3, h4⟩ | ⟨rfl, h4⟩
  · rw [if_neg (by omega)]
    have HM := Lib.hid (And.intro h1 (And.intro h2 (And.intro h3 h4)))
    have HOm := Lib.hid (HO.out m h2)
    clear hn h1 h2 h3 h4
    go_enter Try.func19, Try.ntmps19
    go_wp2_with fail
    refine (HS.out _).mono ?_
    rintro e w1 ⟨rfl, rfl⟩
    go_wp2
    go_loopw [4] (fun x4 wr => ∃ k : Nat, x4 = .int .u64 k ∧ Hid (n ≤ k ∧ k < m) ∧ Below w.heap.size w wr) (fun x4 _ => 18446744073709551616 - (intOf x4).toNat)
    case atStart => exact ⟨n, rfl, Lib.hid ⟨Nat.le_refl _, HM.out.1⟩, Below.refl _ _⟩
    case round =>
      obtain ⟨k, rfl, HK, HV⟩ := hrel
      have hne : ((k : Int) != 18446744073709551615) = true := by
        have := HK.out.2
        have := HM.out.2.1
        simp
        omega
      obtain ⟨k1, hk1⟩ : ∃ x, x = k + 1 := ⟨_, rfl⟩
      have ek : (k : Int) + 1 = (k1 : Int) := by omega
      have wk : IntKind.u64.wrap (k1 : Int) = (k1 : Int) := by
        have := HK.out.2
        have := HM.out.2.1
        rw [IntKind.wrap_u64]
        omega
      have HPk := Lib.hid (HP.out k1 (by have := HK.out.2; have := HM.out.2.1; omega))
      by_cases hkm : k1 = m
      · have hb : isPN k1 = true := by rw [hkm]; exact HM.out.2.2.1
        rw [hb] at HPk
        rw [← hkm] at HOm
        have HE := Lib.hid hkm
        clear hkm hb hk1
        go_wp2_with (first
          | (go_at_call 28; refine (HPk.out _).mono ?_; rintro e w2 ⟨rfl, hb⟩; replace HV := HV.trans (hb.mono HV.size); clear hb)
          | (go_at_call 31; refine (HOm.out _).mono ?_; rintro e w3 ⟨rfl, hb⟩; replace HV := HV.trans (hb.mono HV.size); clear hb))
        go_ret2
        exact ⟨by rw [HE.out]; rfl, HV⟩
      · have hb : isPN k1 = false := HM.out.2.2.2 k1 (by have := HK.out.1; omega) (by have := HK.out.2; omega)
        rw [hb] at HPk
        have HK2 := Lib.hid (show n ≤ k1 ∧ k1 < m from ⟨by have := HK.out.1; omega, by have := HK.out.2; omega⟩)
        have hms : Hid (18446744073709551616 - k1 < 18446744073709551616 - k) := Lib.hid (by have := HK.out.2; have := HM.out.2.1; omega)
        clear hkm hb hk1
        go_wp2_with (go_at_call 28; refine (HPk.out _).mono ?_; rintro e w2 ⟨rfl, hb⟩; replace HV := HV.trans (hb.mono HV.size); clear hb)
        go_roundw
        case rel => exact ⟨k1, rfl, HK2, HV⟩
        case measure => simpa [intOf] using hms.out
  · rw [if_pos rfl]
    have HM := Lib.hid h4
    clear hn h4
    go_enter Try.func19, Try.ntmps19
    go_wp2_with fail
    refine (HS.out _).mono ?_
    rintro e w1 ⟨rfl, rfl⟩
    go_wp2
    go_loopw [4] (fun x4 wr => ∃ k : Nat, x4 = .int .u64 k ∧ Hid (n ≤ k ∧ k < 18446744073709551616) ∧ Below w.heap.size w wr) (fun x4 _ => 18446744073709551616 - (intOf x4).toNat)
    case atStart => exact ⟨n, rfl, Lib.hid ⟨Nat.le_refl _, HN.out⟩, Below.refl _ _⟩
    case round =>
      obtain ⟨k, rfl, HK, HV⟩ := hrel
      by_cases hkl : k = 18446744073709551615
      · have hne : ((k : Int) != 18446744073709551615) = false := by rw [hkl]; rfl
        clear hkl
        go_wp2
        go_ret2
        exact ⟨by rw [bs_zero]; rfl, HV⟩
      · have hne : ((k : Int) != 18446744073709551615) = true := by
          simp
          omega
        obtain ⟨k1, hk1⟩ : ∃ x, x = k + 1 := ⟨_, rfl⟩
        have hk1l : k1 < 18446744073709551616 := by have := HK.out.2; omega
        have ek : (k : Int) + 1 = (k1 : Int) := by omega
        have wk : IntKind.u64.wrap (k1 : Int) = (k1 : Int) := by rw [IntKind.wrap_u64]; omega
        have HPk := Lib.hid (HP.out k1 hk1l)
        have hb : isPN k1 = false := HM.out k1 (by have := HK.out.1; omega) hk1l
        rw [hb] at HPk
        have HK2 := Lib.hid (show n ≤ k1 ∧ k1 < 18446744073709551616 from ⟨by have := HK.out.1; omega, hk1l⟩)
        have hms : Hid (18446744073709551616 - k1 < 18446744073709551616 - k) := Lib.hid (by have := HK.out.2; omega)
        clear hkl hb hk1 hk1l
        go_wp2_with (go_at_call 28; refine (HPk.out _).mono ?_; rintro e w2 ⟨rfl, hb⟩; replace HV := HV.trans (hb.mono HV.size); clear hb)
        go_roundw
        case rel => exact ⟨k1, rfl, HK2, HV⟩
        case measure => simpa [intOf] using hms.out
end Go.Proofs.Ytnnohjabneepiaa

namespace Go.Proofs.Ytnnohjabneepiaa
open Go.RowKit Num QR

theorem isPN_eq {n : Nat} (h2 : 2 ≤ n) (hc : n ∈ firstP) : isPN n = true := by
  unfold isPN
  simp [h2, hc]
theorem isPN_div {n p : Nat} (hp : p ∈ firstP) (hne : n ≠ p) (hd : n % p = 0) : isPN n = false := by
  have hc : n ∉ firstP := by
    intro hc
    have h := firstP_prime n hc
    have h' := firstP_prime p hp
    rcases h.2 p (Nat.dvd_of_mod_eq_zero hd) with h6 | h6
    · have := h'.1
      omega
    · exact hne h6.symm
  have ha : (firstP.all fun p => decide (n % p ≠ 0) && strongN n p) = false := by
    rw [List.all_eq_false]
    exact ⟨p, hp, by simp [hd]⟩
  unfold isPN
  rw [ha]
  simp [hc]
theorem isPN_all {n : Nat} (h2 : 2 ≤ n) (h : ∀ p, p ∈ firstP → n ≠ p ∧ n % p ≠ 0) : isPN n = firstP.all fun p => strongN n p := by
  have hc : n ∉ firstP := fun hc => (h n hc).1 rfl
  have ha : (firstP.all fun p => decide (n % p ≠ 0) && strongN n p) = firstP.all fun p => strongN n p := by
    rw [Bool.eq_iff_iff, List.all_eq_true, List.all_eq_true]
    constructor
    · intro k p hp
      have := k p hp
      rw [Bool.and_eq_true] at this
      exact this.2
    · intro k p hp
      rw [Bool.and_eq_true]
      exact ⟨by simpa using (h p hp).2, k p hp⟩
  unfold isPN
  rw [ha]
  simp [hc, h2]
theorem isPN_small {n : Nat} (h : n < 2) : isPN n = false := by
  unfold isPN
  rw [decide_eq_false (by omega), Bool.false_and]
theorem big_of {n : Nat} (h2 : 2 ≤ n) (h : ∀ p, p ∈ firstP → n ≠ p ∧ n % p ≠ 0) : 37 < n := by
  rcases Nat.lt_or_ge 37 n with h5 | h5
  · exact h5
  · exfalso
    have key : ∀ k, k < 38 → 2 ≤ k → ∃ p, p ∈ firstP ∧ k % p = 0 := by
      have : (List.range 38).all (fun k => decide (k < 2) || firstP.any fun p => decide (k % p = 0)) = true := by decide
      intro k hk hk2
      have := List.all_eq_true.1 this k (List.mem_range.2 hk)
      rw [Bool.or_eq_true, List.any_eq_true] at this
      rcases this with h6 | ⟨p, hp, h6⟩
      · simp at h6
        omega
      · exact ⟨p, hp, by simpa using h6⟩
    obtain ⟨p, hp, h6⟩ := key n (by omega) h2
    exact (h p hp).2 h6
theorem take_next {n p : Nat} {l : List Nat} {i : Nat} (h : ∀ q, q ∈ l.take i → n ≠ q ∧ n % q ≠ 0) (e : l.take (i + 1) = l.take i ++ [p]) (h1 : n ≠ p) (h2 : n % p ≠ 0) : ∀ q, q ∈ l.take (i + 1) → n ≠ q ∧ n % q ≠ 0 := by
  intro q hq
  rw [e, List.mem_append, List.mem_singleton] at hq
  rcases hq with hq | rfl
  · exact h q hq
  · exact ⟨h1, h2⟩

theorem firstP_at {i : Nat} (h : i < 12) : firstP.take (i + 1) = firstP.take i ++ [firstP.getD i 0] ∧ firstP.getD i 0 ∈ firstP ∧ 2 ≤ firstP.getD i 0 ∧ firstP.getD i 0 ≤ 37 ∧ firstP.drop i = firstP.getD i 0 :: firstP.drop (i + 1) := by
  have hk : i = 0 ∨ i = 1 ∨ i = 2 ∨ i = 3 ∨ i = 4 ∨ i = 5 ∨ i = 6 ∨ i = 7 ∨ i = 8 ∨ i = 9 ∨ i = 10 ∨ i = 11 := by omega
  rcases hk with rfl | rfl | rfl | rfl | rfl | rfl | rfl | rfl | rfl | rfl | rfl | rfl <;> decide
theorem cell_at {w : World} {g : Nat} {t : TypeId} (K : Bk w g #[.int .u64 2, .int .u64 3, .int .u64 5, .int .u64 7, .int .u64 11, .int .u64 13, .int .u64 17, .int .u64 19, .int .u64 23, .int .u64 29, .int .u64 31, .int .u64 37] t) {i : Nat} (h : i < 12) : w.cell? ⟨g, i, none⟩ = some (.int .u64 ((firstP.getD i 0 : Nat) : Int)) := by
  have hk : i = 0 ∨ i = 1 ∨ i = 2 ∨ i = 3 ∨ i = 4 ∨ i = 5 ∨ i = 6 ∨ i = 7 ∨ i = 8 ∨ i = 9 ∨ i = 10 ∨ i = 11 := by omega
  rcases hk with rfl | rfl | rfl | rfl | rfl | rfl | rfl | rfl | rfl | rfl | rfl | rfl
  · exact K.cell 0
  · exact K.cell 1
  · exact K.cell 2
  · exact K.cell 3
  · exact K.cell 4
  · exact K.cell 5
  · exact K.cell 6
  · exact K.cell 7
  · exact K.cell 8
  · exact K.cell 9
  · exact K.cell 10
  · exact K.cell 11

set_option maxHeartbeats 8000000 in
set_option maxRecDepth 100000 in
theorem isu_ok (n : Nat) (w : World) (hn : n < 18446744073709551616) :
    Calls Try.prog 29 #[.int .u64 (n : Int)] w (Made w (.bool (isPN n))) := by
  obtain ⟨V, hV⟩ : ∃ V, V = isPN n := ⟨_, rfl⟩
  rw [← hV]
  by_cases h2 : n < 2
  · obtain rfl : V = false := by rw [hV, isPN_small h2]
    clear hV hn
    go_enter Try.func29, Try.ntmps29
    go_wp2
    go_ret
    exact ⟨rfl, Below.refl _ _⟩
  · have h2' : ¬ ((n : Int) < 2) := by omega
    have H2 := Lib.hid (show 2 ≤ n by omega)
    have HSt := Lib.hid (fun (a : Nat) (ha : a < n) W => strongu_ok n a W hn ha)
    have HVV := Lib.hid hV
    clear hV hn h2
    have HV : Below w.heap.size w (w.alloc (.cells #[.int .u64 2, .int .u64 3, .int .u64 5, .int .u64 7, .int .u64 11, .int .u64 13, .int .u64 17, .int .u64 19, .int .u64 23, .int .u64 29, .int .u64 31, .int .u64 37] 31)) := (Below.refl _ _).alloc (Nat.le_refl _) _
    have K := Bk.new w #[.int .u64 2, .int .u64 3, .int .u64 5, .int .u64 7, .int .u64 11, .int .u64 13, .int .u64 17, .int .u64 19, .int .u64 23, .int .u64 29, .int .u64 31, .int .u64 37] 31
    go_enter Try.func29, Try.ntmps29
    go_wp2
    go_loopw [4] (fun x4 wr => ∃ i : Nat, i ≤ 12 ∧ x4 = .int .i64 i ∧ Hid (∀ q, q ∈ firstP.take i → n ≠ q ∧ n % q ≠ 0) ∧ Bk wr w.heap.size #[.int .u64 2, .int .u64 3, .int .u64 5, .int .u64 7, .int .u64 11, .int .u64 13, .int .u64 17, .int .u64 19, .int .u64 23, .int .u64 29, .int .u64 31, .int .u64 37] 31 ∧ Below w.heap.size w wr) (fun x4 _ => 12 - (intOf x4).toNat)
    case atStart => exact ⟨0, by omega, rfl, Lib.hid (fun q hq => by simp at hq), K, HV⟩
    case round =>
      obtain ⟨i, hi, rfl, HI, K, HV⟩ := hrel
      by_cases hlt : i < 12
      · obtain ⟨f1, f2, f3, f4, f5⟩ := firstP_at hlt
        have hc := cell_at K hlt
        have hg := K.lt
        obtain ⟨p, hp⟩ : ∃ p, p = firstP.getD i 0 := ⟨_, rfl⟩
        rw [← hp] at f1 f2 f3 f4 f5 hc
        have p0 : (p : Int) ≠ 0 := by omega
        by_cases he : n = p
        · obtain rfl : V = true := by rw [HVV.out, isPN_eq H2.out (he ▸ f2)]
          subst he
          clear f1 f2 f3 f4 f5 hp
          go_wp2
          go_ret
          exact ⟨rfl, HV⟩
        · have hne : ((n : Int) == (p : Int)) = false := beq_false_of_ne (by omega)
          obtain ⟨r, hr⟩ : ∃ r, r = n % p := ⟨_, rfl⟩
          have er : (n : Int) % (p : Int) = (r : Int) := by rw [hr, Int.natCast_emod]
          by_cases h0 : r = 0
          · obtain rfl : V = false := by rw [HVV.out, isPN_div f2 he (by rw [← hr, h0])]
            subst h0
            clear f1 f2 f3 f4 f5 hp he hr
            go_wp2
            go_ret
            exact ⟨rfl, HV⟩
          · have HI2 := Lib.hid (take_next HI.out f1 he (by rw [← hr]; exact h0))
            clear f1 f2 f3 f4 f5 hp he hr
            go_wp2
            go_roundw
            case rel => exact ⟨i + 1, by omega, by go_num, HI2, K, HV⟩
            case measure => simp [intOf]; omega
      · obtain rfl : i = 12 := by omega
        have hall : ∀ q, q ∈ firstP → n ≠ q ∧ n % q ≠ 0 := fun q hq => HI.out q (by rw [show firstP.take 12 = firstP from rfl]; exact hq)
        have hbig := big_of H2.out hall
        have HW := Lib.hid (show V = firstP.all fun p => strongN n p from by rw [HVV.out, isPN_all H2.out hall])
        clear hall hi hlt
        rw [show ((12 : Nat) : Int) = 12 from rfl]
        go_wp2
        go_loopw [5] (fun x5 wr => ∃ i : Nat, i ≤ 12 ∧ x5 = .int .i64 i ∧ Hid (V = (firstP.drop i).all fun p => strongN n p) ∧ Bk wr w.heap.size #[.int .u64 2, .int .u64 3, .int .u64 5, .int .u64 7, .int .u64 11, .int .u64 13, .int .u64 17, .int .u64 19, .int .u64 23, .int .u64 29, .int .u64 31, .int .u64 37] 31 ∧ Below w.heap.size w wr) (fun x5 _ => 12 - (intOf x5).toNat)
        case atStart => exact ⟨0, by omega, rfl, Lib.hid (by rw [List.drop_zero]; exact HW.out), K, HV⟩
        case round =>
          obtain ⟨i, hi, rfl, HJ, K, HV⟩ := hrel
          by_cases hlt : i < 12
          · obtain ⟨f1, f2, f3, f4, f5⟩ := firstP_at hlt
            have hc := cell_at K hlt
            have hg := K.lt
            have hv := HJ.out
            obtain ⟨p, hp⟩ : ∃ p, p = firstP.getD i 0 := ⟨_, rfl⟩
            rw [← hp] at f1 f2 f3 f4 f5 hc
            rw [f5, List.all_cons] at hv
            have HSp := Lib.hid (HSt.out p (by omega))
            rcases hs : strongN n p with _ | _
            · rw [hs] at HSp hv
              obtain rfl : V = false := by rw [hv, Bool.false_and]
              clear f1 f2 f3 f4 f5 hp hs hv
              go_wp2_with (go_at_call 39; refine (HSp.out _).mono ?_; rintro e w' ⟨rfl, rfl⟩)
              go_ret
              exact ⟨rfl, HV⟩
            · rw [hs] at HSp hv
              rw [Bool.true_and] at hv
              have HJ2 := Lib.hid hv
              clear f1 f2 f3 f4 f5 hp hs hv
              go_wp2_with (go_at_call 39; refine (HSp.out _).mono ?_; rintro e w' ⟨rfl, rfl⟩)
              go_roundw
              case rel => exact ⟨i + 1, by omega, by go_num, HJ2, K, HV⟩
              case measure => simp [intOf]; omega
          · obtain rfl : i = 12 := by omega
            obtain rfl : V = true := by rw [HJ.out]; rfl
            clear hi hlt
            rw [show ((12 : Nat) : Int) = 12 from rfl]
            go_wp2
            go_ret
            exact ⟨rfl, HV⟩
end Go.Proofs.Ytnnohjabneepiaa

namespace Go.Proofs.Ytnnohjabneepiaa
open Go.RowKit Num

set_option maxHeartbeats 400000 in
set_option maxRecDepth 100000 in
theorem u4_no (s : ByteArray) (w : World) (hs : s.size ≤ 1000) (h8 : 8 < s.size) :
    Calls Try.prog 21 #[.string s] w fun e w' => ∃ u : Int, e = .returned (.tuple #[.int .u64 u, .bool false]) ∧ w = w' := by
  have hd8 : decide ((s.size : Int) ≤ 8) = false := by simp; omega
  go_enter Try.func21, Try.ntmps21
  go_wp2
  go_loop [4, 5] (fun m i => ∃ (k : Nat) (u : Int), k ≤ s.size ∧ i = .int .i64 k ∧ m = .int .u64 u) (fun _ i => s.size - (intOf i).toNat)
  case atStart => exact ⟨0, 0, by omega, rfl, rfl⟩
  case round =>
    obtain ⟨k, u, hk, rfl, rfl⟩ := hrel
    by_cases hlt : k < s.size
    · go_wp2
      go_round
      case rel => exact ⟨k + 1, _, by omega, by go_num, rfl⟩
      case measure => simp [intOf]; omega
    · have h3 : k = s.size := by omega
      subst h3
      go_wp2
      go_ret2
      exact ⟨⟨u, rfl⟩, rfl⟩

theorem bs_split {u : Nat} (h : u ≠ 0) : bs u = bs (u / 256) ++ (⟨#[UInt8.ofNat u]⟩ : ByteArray) := by
  unfold bs
  rw [cb_pos h]
  apply ByteArray.ext
  simp
theorem bs0_app (s : ByteArray) : bs 0 ++ s = s := by
  rw [bs_zero]
  apply ByteArray.ext
  simp

set_option maxHeartbeats 1000000 in
set_option maxRecDepth 100000 in
theorem of4_ok (n : Nat) (w : World) (hn : n < 18446744073709551616) : Calls Try.prog 15 #[.int .u64 (n : Int)] w (Made w (.string (bs n))) := by
  have HN := Lib.hid hn
  clear hn
  go_enter Try.func15, Try.ntmps15
  go_wp2
  go_loopw [0, 3] (fun x0 x3 wr => ∃ (u : Nat) (s : ByteArray), x0 = .int .u64 u ∧ x3 = .string s ∧ Hid (bs n = bs u ++ s ∧ u < 18446744073709551616) ∧ s.size ≤ 8 ∧ Below w.heap.size w wr) (fun x0 _ _ => (intOf x0).toNat)
  case atStart => exact ⟨n, ⟨#[]⟩, rfl, rfl, Lib.hid ⟨by apply ByteArray.ext; simp, HN.out⟩, by decide, Below.refl _ _⟩
  case round =>
    obtain ⟨u, s, rfl, rfl, HU, hs, HV⟩ := hrel
    by_cases h0 : u = 0
    · have he : bs n = s := by rw [HU.out.1, h0, bs0_app]
      have HE := Lib.hid he
      subst h0
      clear he
      go_wp2
      go_ret
      exact ⟨by rw [HE.out]; rfl, HV⟩
    · obtain ⟨r, hr⟩ : ∃ r, r = u % 256 := ⟨_, rfl⟩
      have er : (u : Int) % 256 = (r : Int) := by omega
      have wr8 : IntKind.u8.wrap (r : Int) = (r : Int) := by rw [IntKind.wrap_u8]; omega
      obtain ⟨b, hb⟩ : ∃ b, b = UInt8.ofNat u := ⟨_, rfl⟩
      have hbt : (b.toNat : Int) = (r : Int) := by rw [hb, UInt8.toNat_ofNat', hr]
      have hB : Bt (wr.alloc (.cells #[.int .u8 (r : Int)] 5)) wr.heap.size [b] := by
        have : (cellsB [b]).toArray = #[.int .u8 (r : Int)] := by rw [← hbt]; rfl
        unfold Bt
        rw [this]
        exact heap_alloc_new _ _
      have hcv := hB.string (P := Try.prog) (src := 38) (dst := 9) 0 1 1 rfl Try.underlying38 Try.underlying5 Try.underlying9
      rw [show (⟨([b].drop 0).toArray⟩ : ByteArray) = ⟨#[b]⟩ from rfl] at hcv
      obtain ⟨q, hq⟩ : ∃ q, q = u / 256 := ⟨_, rfl⟩
      have eq1 : (u : Int) / 256 = (q : Int) := by omega
      have wq : IntKind.u64.wrap (q : Int) = (q : Int) := by rw [IntKind.wrap_u64]; have := HU.out.2; omega
      have HU2 : Hid (bs n = bs q ++ ((⟨#[b]⟩ : ByteArray) ++ s) ∧ q < 18446744073709551616) := by
        refine Lib.hid ⟨?_, by have := HU.out.2; omega⟩
        rw [HU.out.1, bs_split h0, ← hb, ← hq, ByteArray.append_assoc]
      have hsz : ((⟨#[b]⟩ : ByteArray) ++ s).size ≤ 8 := by
        have h1 : (bs n).size ≤ 8 := by rw [bs_le]; exact HN.out
        rw [HU2.out.1, ByteArray.size_append] at h1
        omega
      have hlt : q < u := by omega
      have hs1 : ((⟨#[b]⟩ : ByteArray)).size = 1 := rfl
      have hng : ¬ (9223372036854775807 < ((⟨#[b]⟩ : ByteArray)).size + s.size) := by rw [hs1]; omega
      clear hr hb hbt hB hq h0
      go_wp2
      go_roundw
      case rel => exact ⟨q, (⟨#[b]⟩ : ByteArray) ++ s, rfl, rfl, HU2, hsz, HV.alloc HV.size _⟩
      case measure => simp [intOf]; omega
end Go.Proofs.Ytnnohjabneepiaa

namespace Go.Proofs.Ytnnohjabneepiaa
open Go.RowKit Num

theorem top64 {n : Nat} (h : n < 18446744073709551616) : n < Top := top_le (Nat.le_of_lt h) (by unfold Top; decide)
theorem formed_yes {n : Nat} (h : n < Top) (w : World) : Calls Try.prog 18 #[.string (bs n)] w (Same w (.bool true)) := by
  have := formed_any (bs n) w (by have := bs_small h; omega)
  rwa [bs_valid h] at this

set_option maxHeartbeats 400000 in
set_option maxRecDepth 100000 in
theorem ris_ok (n : Nat) (w : World) (hn : n < 18446744073709551616) :
    Calls Try.prog 14 #[.string (bs n)] w (Made w (.tuple #[.bool (isPN n), .int .i64 0])) := by
  have HF := Lib.hid (fun W => formed_yes (top64 hn) W)
  have HU := Lib.hid (fun W => u4_yes n W hn)
  have HP := Lib.hid (fun W => isu_ok n W hn)
  clear hn
  go_enter Try.func14, Try.ntmps14
  go_wp2_with fail
  refine (HF.out _).mono ?_
  rintro e w1 ⟨rfl, rfl⟩
  go_wp2_with fail
  refine (HU.out _).mono ?_
  rintro e w1 ⟨rfl, rfl⟩
  go_wp2_with fail
  refine (HP.out _).mono ?_
  rintro e w2 ⟨rfl, HV⟩
  go_wp2
  go_ret2
  exact ⟨rfl, HV⟩
set_option maxHeartbeats 400000 in
set_option maxRecDepth 100000 in
theorem ris_form (s : ByteArray) (w : World) (hs : s.size ≤ 9223372036854775807) (h : validB s = false) :
    Calls Try.prog 14 #[.string s] w (Made w (.tuple #[.bool false, .int .i64 3])) := by
  have HF := Lib.hid (fun W => formed_any s W hs)
  rw [h] at HF
  clear hs h
  go_enter Try.func14, Try.ntmps14
  go_wp2_with fail
  refine (HF.out _).mono ?_
  rintro e w1 ⟨rfl, rfl⟩
  go_wp2
  go_ret2
  exact ⟨rfl, Below.refl _ _⟩
set_option maxHeartbeats 400000 in
set_option maxRecDepth 100000 in
theorem ris_long (s : ByteArray) (w : World) (hs : s.size ≤ 1000) (h : validB s = true) (h8 : 8 < s.size) :
    Calls Try.prog 14 #[.string s] w (Made w (.tuple #[.bool false, .int .i64 5])) := by
  have HF := Lib.hid (fun W => formed_any s W (by omega))
  rw [h] at HF
  have HU := Lib.hid (fun W => u4_no s W hs h8)
  clear hs h h8
  go_enter Try.func14, Try.ntmps14
  go_wp2_with fail
  refine (HF.out _).mono ?_
  rintro e w1 ⟨rfl, rfl⟩
  go_wp2_with fail
  refine (HU.out _).mono ?_
  rintro e w1 ⟨u, rfl, rfl⟩
  go_wp2
  go_ret2
  exact ⟨rfl, Below.refl _ _⟩

set_option maxHeartbeats 1000000 in
set_option maxRecDepth 100000 in
theorem rsafe_err (s : ByteArray) (c : Int) (w : World) (hc : c = 3 ∨ c = 5) (h : ∀ W, Calls Try.prog 14 #[.string s] W (Made W (.tuple #[.bool false, .int .i64 c]))) :
    Calls Try.prog 23 #[.string s] w (Made w (.tuple #[.bool false, .int .i64 c])) := by
  have HI := Lib.hid h
  clear h
  rcases hc with rfl | rfl
  all_goals
    go_enter Try.func23, Try.ntmps23
    go_wp2_with fail
    refine (HI.out _).mono ?_
    rintro e w1 ⟨rfl, HV⟩
    go_wp2
    go_ret2
    exact ⟨rfl, HV⟩

set_option maxHeartbeats 1000000 in
set_option maxRecDepth 100000 in
theorem rsafe_ok (n : Nat) (w : World) (hn : n < 18446744073709551616) :
    Calls Try.prog 23 #[.string (bs n)] w (Made w (.tuple #[.bool (isPN n && isPN ((n - 1) / 2)), .int .i64 0])) := by
  have HI := Lib.hid (fun W => ris_ok n W hn)
  have HU := Lib.hid (fun W => u4_yes n W hn)
  have HV := Below.refl w.heap.size w
  rcases hp : isPN n with _ | _
  · rw [hp] at HI
    clear hn hp
    go_enter Try.func23, Try.ntmps23
    go_wp2_with (first
      | (go_at_call 14; refine (HI.out _).mono ?_; rintro e w1 ⟨rfl, hb⟩; replace HV := HV.trans (hb.mono HV.size); clear hb)
      | (go_at_call 21; refine (HU.out _).mono ?_; rintro e w2 ⟨rfl, rfl⟩))
    go_ret2
    exact ⟨rfl, HV⟩
  · rw [hp] at HI
    have h2 := isPN_two hp
    obtain ⟨h, hh⟩ : ∃ h, h = (n - 1) / 2 := ⟨_, rfl⟩
    obtain ⟨l, hl⟩ : ∃ l, l = n - 1 := ⟨_, rfl⟩
    have el : (n : Int) - 1 = (l : Int) := by omega
    have wl : IntKind.u64.wrap (l : Int) = (l : Int) := by rw [IntKind.wrap_u64]; omega
    have wl2 : IntKind.u64.wrap ((n : Int) - 1) = (l : Int) := by rw [el, wl]
    have eh : (l : Int) / 2 = (h : Int) := by omega
    have et : (l : Int).tdiv 2 = (h : Int) := by rw [Int.tdiv_eq_ediv_of_nonneg (by omega)]; omega
    have wh : IntKind.u64.wrap (h : Int) = (h : Int) := by rw [IntKind.wrap_u64]; omega
    have HP2 := Lib.hid (fun W => isu_ok h W (by omega))
    rw [← hh]
    generalize isPN h = q at *
    clear hn hp hh hl h2
    go_enter Try.func23, Try.ntmps23
    go_wp2_with (first
      | (go_at_call 14; refine (HI.out _).mono ?_; rintro e w1 ⟨rfl, hb⟩; replace HV := HV.trans (hb.mono HV.size); clear hb)
      | (go_at_call 21; refine (HU.out _).mono ?_; rintro e w2 ⟨rfl, rfl⟩)
      | (go_at_call 29; (with_reducible refine (HP2.out _).mono ?_); rintro e w3 ⟨rfl, hb⟩; replace HV := HV.trans (hb.mono HV.size); clear hb))
    go_ret2
    exact ⟨by simp, HV⟩

set_option maxHeartbeats 1000000 in
set_option maxRecDepth 100000 in
theorem rstrong_ok (n a : Nat) (w : World) (hn : n < 18446744073709551616) (ha : a < Top) :
    Calls Try.prog 17 #[.string (bs n), .string (bs a)] w (Made w (.tuple #[.bool (strongN n a), .int .i64 0])) := by
  have HFn := Lib.hid (fun W => formed_yes (top64 hn) W)
  have HFa := Lib.hid (fun W => formed_yes ha W)
  have HU := Lib.hid (fun W => u4_yes n W hn)
  have HV := Below.refl w.heap.size w
  by_cases h0 : n = 0
  · obtain ⟨V, hV⟩ : ∃ V, V = strongN n a := ⟨_, rfl⟩
    obtain rfl : V = false := by rw [hV, h0]; unfold strongN; simp
    rw [← hV]
    have hz : ((n : Int) == 0) = true := by rw [h0]; rfl
    clear hn ha h0 hV
    go_enter Try.func17, Try.ntmps17
    go_wp2_with (first
      | (go_at_call 18; (first | (with_reducible refine (HFn.out _).mono ?_) | (with_reducible refine (HFa.out _).mono ?_)); rintro e w1 ⟨rfl, rfl⟩)
      | (go_at_call 21; refine (HU.out _).mono ?_; rintro e w2 ⟨rfl, rfl⟩))
    go_ret2
    exact ⟨rfl, HV⟩
  · have hz : ((n : Int) == 0) = false := beq_false_of_ne (by omega)
    have HM := Lib.hid (fun W => mod4_ok a n W ha h0 hn)
    have HS := Lib.hid (fun W => strongu_ok n (a % n) W hn (Nat.mod_lt a (Nat.pos_of_ne_zero h0)))
    rw [strongN_mod] at HS
    clear hn ha h0
    go_enter Try.func17, Try.ntmps17
    go_wp2_with (first
      | (go_at_call 18; (first | (with_reducible refine (HFn.out _).mono ?_) | (with_reducible refine (HFa.out _).mono ?_)); rintro e w1 ⟨rfl, rfl⟩)
      | (go_at_call 21; refine (HU.out _).mono ?_; rintro e w2 ⟨rfl, rfl⟩)
      | (go_at_call 40; refine (HM.out _).mono ?_; rintro e w3 ⟨rfl, hb⟩; replace HV := HV.trans (hb.mono HV.size); clear hb)
      | (go_at_call 39; refine (HS.out _).mono ?_; rintro e w4 ⟨rfl, rfl⟩))
    go_ret2
    exact ⟨rfl, HV⟩
set_option maxHeartbeats 1000000 in
set_option maxRecDepth 100000 in
theorem rstrong_form (s t : ByteArray) (w : World) (hs : s.size ≤ 9223372036854775807) (ht : t.size ≤ 9223372036854775807) (vs vt : Bool) (hvs : validB s = vs) (hvt : validB t = vt) (h : (vs && vt) = false) :
    Calls Try.prog 17 #[.string s, .string t] w (Made w (.tuple #[.bool false, .int .i64 3])) := by
  have HF := Lib.hid (fun W => formed_any s W hs)
  have HG := Lib.hid (fun W => formed_any t W ht)
  rw [hvs] at HF
  rw [hvt] at HG
  have h5 : vs = false ∨ (vs = true ∧ vt = false) := by revert h; cases vs <;> cases vt <;> simp
  clear hs ht hvs hvt h
  rcases h5 with rfl | ⟨rfl, rfl⟩
  all_goals
    have tok0 : True := trivial
    go_enter Try.func17, Try.ntmps17
    go_wp2_with (first
      | (go_at_call 18; clear tok0; refine (HF.out _).mono ?_; rintro e w1 ⟨rfl, rfl⟩)
      | (go_at_call 18; refine (HG.out _).mono ?_; rintro e w1 ⟨rfl, rfl⟩))
    go_ret2
    exact ⟨rfl, Below.refl _ _⟩
set_option maxHeartbeats 1000000 in
set_option maxRecDepth 100000 in
theorem pstrong_form (s t : ByteArray) (w : World) (hs : s.size ≤ 9223372036854775807) (ht : t.size ≤ 9223372036854775807) (vs vt : Bool) (hvs : validB s = vs) (hvt : validB t = vt) (h : (vs && vt) = false) :
    Calls Try.prog 16 #[.string s, .string t] w (Made w (.tuple #[.bool false, .int .i64 3])) := by
  have HF := Lib.hid (fun W => valid_any s W hs)
  have HG := Lib.hid (fun W => valid_any t W ht)
  rw [hvs] at HF
  rw [hvt] at HG
  have h5 : vs = false ∨ (vs = true ∧ vt = false) := by revert h; cases vs <;> cases vt <;> simp
  clear hs ht hvs hvt h
  rcases h5 with rfl | ⟨rfl, rfl⟩
  all_goals
    have tok0 : True := trivial
    go_enter Try.func16, Try.ntmps16
    go_wp2_with (first
      | (go_at_call 30; clear tok0; refine (HF.out _).mono ?_; rintro e w1 ⟨rfl, rfl⟩)
      | (go_at_call 30; refine (HG.out _).mono ?_; rintro e w1 ⟨rfl, rfl⟩))
    go_ret2
    exact ⟨rfl, Below.refl _ _⟩

set_option maxHeartbeats 1000000 in
set_option maxRecDepth 100000 in
theorem rnextu_ok (n m : Nat) (w : World) (hn : n < 18446744073709551616) (hm : NextR n m) :
    Calls Try.prog 41 #[.int .u64 (n : Int)] w (Made w (.tuple #[.int .u64 (m : Int), .bool (decide (m ≠ 0))])) := by
  have HP := Lib.hid (fun (k : Nat) (hk : k < 18446744073709551616) W => isu_ok k W hk)
  have HN := Lib.hid hn
  rcases hm with ⟨h1, h2, h3, h4⟩ | ⟨rfl, h4⟩
  · rw [decide_eq_true (show m ≠ 0 by omega)]
    have HM := Lib.hid (And.intro h1 (And.intro h2 (And.intro h3 h4)))
    clear hn h1 h2 h3 h4
    go_enter Try.func41, Try.ntmps41
    go_wp2
    go_loopw [0] (fun x0 wr => ∃ k : Nat, x0 = .int .u64 k ∧ Hid (n ≤ k ∧ k < m) ∧ Below w.heap.size w wr) (fun x0 _ => 18446744073709551616 - (intOf x0).toNat)
    case atStart => exact ⟨n, rfl, Lib.hid ⟨Nat.le_refl _, HM.out.1⟩, Below.refl _ _⟩
    case round =>
      obtain ⟨k, rfl, HK, HV⟩ := hrel
      obtain ⟨k1, hk1⟩ : ∃ x, x = k + 1 := ⟨_, rfl⟩
      have ek : (k : Int) + 1 = (k1 : Int) := by omega
      have wk : IntKind.u64.wrap (k1 : Int) = (k1 : Int) := by
        have := HK.out.2
        have := HM.out.2.1
        rw [IntKind.wrap_u64]
        omega
      have k10 : ((k1 : Int) != 0) = true := by simp; omega
      have HPk := Lib.hid (HP.out k1 (by have := HK.out.2; have := HM.out.2.1; omega))
      by_cases hkm : k1 = m
      · have hb : isPN k1 = true := by rw [hkm]; exact HM.out.2.2.1
        rw [hb] at HPk
        have HE := Lib.hid hkm
        clear hkm hb hk1
        go_wp2_with (go_at_call 29; refine (HPk.out _).mono ?_; rintro e w2 ⟨rfl, hb⟩; replace HV := HV.trans (hb.mono HV.size); clear hb)
        go_ret2
        exact ⟨by rw [HE.out]; rfl, HV⟩
      · have hb : isPN k1 = false := HM.out.2.2.2 k1 (by have := HK.out.1; omega) (by have := HK.out.2; omega)
        rw [hb] at HPk
        have HK2 := Lib.hid (show n ≤ k1 ∧ k1 < m from ⟨by have := HK.out.1; omega, by have := HK.out.2; omega⟩)
        have hms : Hid (18446744073709551616 - k1 < 18446744073709551616 - k) := Lib.hid (by have := HK.out.2; have := HM.out.2.1; omega)
        clear hkm hb hk1
        go_wp2_with (go_at_call 29; refine (HPk.out _).mono ?_; rintro e w2 ⟨rfl, hb⟩; replace HV := HV.trans (hb.mono HV.size); clear hb)
        go_roundw
        case rel => exact ⟨k1, rfl, HK2, HV⟩
        case measure => simpa [intOf] using hms.out
  · rw [decide_eq_false (by simp)]
    have HM := Lib.hid h4
    clear hn h4
    go_enter Try.func41, Try.ntmps41
    go_wp2
    go_loopw [0] (fun x0 wr => ∃ k : Nat, x0 = .int .u64 k ∧ Hid (n ≤ k ∧ k < 18446744073709551616) ∧ Below w.heap.size w wr) (fun x0 _ => 18446744073709551616 - (intOf x0).toNat)
    case atStart => exact ⟨n, rfl, Lib.hid ⟨Nat.le_refl _, HN.out⟩, Below.refl _ _⟩
    case round =>
      obtain ⟨k, rfl, HK, HV⟩ := hrel
      by_cases hkl : k = 18446744073709551615
      · have wk : IntKind.u64.wrap ((k : Int) + 1) = 0 := by rw [IntKind.wrap_u64, hkl]; rfl
        clear hkl
        go_wp2
        go_ret2
        exact ⟨rfl, HV⟩
      · obtain ⟨k1, hk1⟩ : ∃ x, x = k + 1 := ⟨_, rfl⟩
        have hk1l : k1 < 18446744073709551616 := by have := HK.out.2; omega
        have ek : (k : Int) + 1 = (k1 : Int) := by omega
        have wk : IntKind.u64.wrap (k1 : Int) = (k1 : Int) := by rw [IntKind.wrap_u64]; omega
        have k10 : ((k1 : Int) != 0) = true := by simp; omega
        have HPk := Lib.hid (HP.out k1 hk1l)
        have hb : isPN k1 = false := HM.out k1 (by have := HK.out.1; omega) hk1l
        rw [hb] at HPk
        have HK2 := Lib.hid (show n ≤ k1 ∧ k1 < 18446744073709551616 from ⟨by have := HK.out.1; omega, hk1l⟩)
        have hms : Hid (18446744073709551616 - k1 < 18446744073709551616 - k) := Lib.hid (by have := HK.out.2; omega)
        clear hkl hb hk1 hk1l
        go_wp2_with (go_at_call 29; refine (HPk.out _).mono ?_; rintro e w2 ⟨rfl, hb⟩; replace HV := HV.trans (hb.mono HV.size); clear hb)
        go_roundw
        case rel => exact ⟨k1, rfl, HK2, HV⟩
        case measure => simpa [intOf] using hms.out
end Go.Proofs.Ytnnohjabneepiaa

namespace Go.Proofs.Ytnnohjabneepiaa
open Go.RowKit Num

/-- The state of a search for factors: those in l were taken out of N, r is left and has no divisor below p. -/
def FacS (N : Nat) (l : List Nat) (r p : Nat) : Prop := Took N l r ∧ Rough p r ∧ 1 ≤ r ∧ 2 ^ l.length * r ≤ N
theorem FacS.take {N r p : Nat} {l : List Nat} (h : FacS N l r p) (h2 : 2 ≤ p) (hd : r % p = 0) : FacS N (l ++ [p]) (r / p) p := by
  obtain ⟨h1, h3, h4, h5⟩ := h
  have hdv := Nat.dvd_of_mod_eq_zero hd
  refine ⟨h1.snoc (h3.least h2 hdv), h3.quot hdv, Nat.div_pos (Nat.le_of_dvd h4 hdv) (by omega), ?_⟩
  rw [List.length_append, List.length_singleton, Nat.pow_succ, Nat.mul_assoc]
  refine Nat.le_trans (Nat.mul_le_mul_left _ ?_) h5
  exact Nat.le_trans (Nat.mul_le_mul_right _ h2) (Nat.mul_div_le r p)
theorem FacS.len {N r p : Nat} {l : List Nat} (h : FacS N l r p) (hN : N < 1099511627776) : l.length < 40 := by
  obtain ⟨_, _, h4, h5⟩ := h
  have h6 : 2 ^ l.length ≤ N := Nat.le_trans (Nat.le_mul_of_pos_right _ h4) h5
  rcases Nat.lt_or_ge l.length 40 with h7 | h7
  · exact h7
  · exfalso
    have := Nat.pow_le_pow_right (show 0 < 2 by decide) h7
    have h9 : 2 ^ 40 = 1099511627776 := by decide
    omega

theorem cells_snoc (l : List Nat) (d : Nat) : cellsW (l ++ [d]) = cellsW l ++ [.int .u64 (d : Int)] := by simp [cellsW]
theorem new_one (W : World) (t : TypeId) (u : Value) : ∀ (C : Array Value), C[0]? = some u → ∀ (j : Nat) (v : Value), [u][j]? = some v → (W.alloc (.cells C t)).cell? (Addr.add ⟨W.heap.size, 0, none⟩ j) = some v := by
  intro C hC j v hj
  match j, hj with
  | 0, hj =>
    simp at hj; subst hj
    rw [show Addr.add ⟨W.heap.size, 0, none⟩ 0 = ⟨W.heap.size, 0, none⟩ from rfl, World.cell?_alloc_mark]
    exact hC

set_option maxHeartbeats 4000000 in
set_option maxRecDepth 100000 in
theorem factorsu_ok (N : Nat) (w : World) (h0 : N ≠ 0) (hN : N < 1099511627776) :
    Calls Try.prog 43 #[.int .u64 (N : Int)] w fun e w' => ∃ (v : Value) (L : List Nat), e = .returned v ∧ IsFac N L ∧ L.length ≤ 40 ∧ w'.ownsRow w.heap.size 31 1 v L.length (cellsW L) ∧ Below w.heap.size w w' := by
  obtain ⟨i0, hi0, hz0, hz1, hz2⟩ := info_parts info_u64
  have HN := Lib.hid hN
  have Hr : Hid (1 ≤ N) := Lib.hid (by omega)
  clear h0 hN
  go_enter Try.func43, Try.ntmps43
  go_wp2
  go_loopw [0, 3, 4] (fun x0 x3 x4 wr => ∃ (r p : Nat) (l : List Nat), x0 = .int .u64 r ∧ x4 = .int .u64 p ∧ Hid (r ≤ N) ∧ 2 ≤ p ∧ p ≤ 1048576 ∧ l.length ≤ 39 ∧ Hid (FacS N l r p) ∧ wr.ownsRow w.heap.size 31 1 x3 l.length (cellsW l) ∧ Below w.heap.size w wr) (fun _ _ x4 _ => 1048577 - (intOf x4).toNat)
  case atStart => exact ⟨N, 2, [], rfl, rfl, Lib.hid (Nat.le_refl _), by omega, by omega, by simp, Lib.hid ⟨Took.nil N, Rough.one (by omega) N, Hr.out, by simp⟩, World.ownsRow_nil _ _ _ _, Below.refl _ _⟩
  case round =>
    obtain ⟨r, p, l, rfl, rfl, hrN, hp2, hpl, hll, HF, hown, hbel⟩ := hrel
    obtain ⟨A1, cap, rfl⟩ := owns_form hown
    obtain ⟨pp, hpp⟩ : ∃ x, x = p * p := ⟨_, rfl⟩
    have epp : (p : Int) * (p : Int) = (pp : Int) := by rw [hpp, Int.natCast_mul]
    have hppl : pp ≤ 1048576 * 1048576 := by rw [hpp]; exact Nat.mul_le_mul hpl hpl
    have wpp : IntKind.u64.wrap (pp : Int) = (pp : Int) := by rw [IntKind.wrap_u64]; omega
    by_cases hle : pp ≤ r
    · have hpl2 : p < 1048576 := by
        rcases Nat.lt_or_ge p 1048576 with h5 | h5
        · exact h5
        · exfalso
          have h6 := Nat.mul_le_mul h5 h5
          have := hrN.out
          have := HN.out
          omega
      have p0 : (p : Int) ≠ 0 := by omega
      clear hpp hppl
      go_wp2
      clear hle
      go_loopw [0, 3] (fun x0 x3 wr => ∃ (r : Nat) (l : List Nat), x0 = .int .u64 r ∧ Hid (r ≤ N) ∧ l.length ≤ 39 ∧ Hid (FacS N l r p) ∧ wr.ownsRow w.heap.size 31 1 x3 l.length (cellsW l) ∧ Below w.heap.size w wr) (fun x0 _ _ => (intOf x0).toNat)
      case atStart => exact ⟨r, l, rfl, hrN, hll, HF, hown, hbel⟩
      case round =>
        obtain ⟨r, l, rfl, hrN, hll, HF, hown, hbel⟩ := hrel
        obtain ⟨A1, cap, rfl⟩ := owns_form hown
        obtain ⟨rr, hrr⟩ : ∃ x, x = r % p := ⟨_, rfl⟩
        have err : (r : Int) % (p : Int) = (rr : Int) := by rw [hrr, Int.natCast_emod]
        by_cases h0 : rr = 0
        · obtain ⟨q, hq⟩ : ∃ x, x = r / p := ⟨_, rfl⟩
          have erq : (r : Int) / (p : Int) = (q : Int) := by rw [hq, Int.natCast_ediv]
          have wq : IntKind.u64.wrap (q : Int) = (q : Int) := by
            have := Nat.div_le_self r p
            have := hrN.out
            have := HN.out
            rw [IntKind.wrap_u64]
            omega
          have hF2 := HF.out.take hp2 (by rw [← hrr, h0])
          rw [← hq] at hF2
          have hl2 : (l ++ [p]).length ≤ 39 := by have := hF2.len HN.out; omega
          have HF2 := Lib.hid hF2
          have HQ := Lib.hid (show q ≤ N ∧ q < r from ⟨by have := Nat.div_le_self r p; have := hrN.out; omega, by rw [hq]; exact Nat.div_lt_self HF.out.2.2.1 (by omega)⟩)
          have HNW := Lib.hid (new_one wr 31 (.int .u64 (p : Int)))
          have HONE : Hid (∀ u ∈ [Value.int .u64 (p : Int)], u.oneCell' = true) := Lib.hid (by intro u hu; simp at hu; subst hu; rfl)
          have hbase := hbel.size
          have hqr := HQ.out.2
          subst h0
          clear hq hrr hF2
          go_wp2_with (at_builtin; refine wpList_append_own _ rfl _ _ 68 rfl w.heap.size 31 i0 (.int .u64 0) 1 8 Try.underlying68 hi0 hz0 hz1 hz2 rfl (by decide) _ _ _ rfl (hown.alloc _) ⟨wr.heap.size, 0, none⟩ 1 1 [.int .u64 (p : Int)] rfl rfl (HNW.out _ rfl) HONE.out (by unfold maxLen; omega) (by omega) (by simp; omega) ?_; intro v1 w1 hown1 hg1 _; have hbel1 := (hbel.alloc hbel.size (.cells #[.int .u64 (p : Int)] 31)).grown hg1 (by simp; omega) (fun g hg => (hown.lt g hg).1))
          go_roundw
          case rel => exact ⟨q, l ++ [p], rfl, Lib.hid HQ.out.1, hl2, HF2, by rw [cells_snoc, List.length_append]; exact hown1, hbel1⟩
          case measure => simp [intOf]; omega
        · have hF3 := HF.out
          have HF3 := Lib.hid (show FacS N l r (p + 1) from ⟨hF3.1, hF3.2.1.next (by rw [← hrr]; exact h0), hF3.2.2.1, hF3.2.2.2⟩)
          have ep1 : ((p + 1 : Nat) : Int) = (p : Int) + 1 := by omega
          clear hrr hF3
          go_wp2
          go_roundw
          case rel => exact ⟨r, p + 1, l, rfl, by go_num, hrN, by omega, by omega, hll, HF3, hown, hbel⟩
          case measure => simp [intOf]; omega
    · by_cases hr1 : 1 < r
      · have hL := HF.out.1.last (HF.out.2.1.self hr1 (by rw [← hpp]; omega))
        have HL := Lib.hid hL
        have HNW := Lib.hid (new_one wr 31 (.int .u64 (r : Int)))
        have HONE : Hid (∀ u ∈ [Value.int .u64 (r : Int)], u.oneCell' = true) := Lib.hid (by intro u hu; simp at hu; subst hu; rfl)
        have hbase := hbel.size
        clear hpp hppl hL
        go_wp2_with (at_builtin; refine wpList_append_own _ rfl _ _ 68 rfl w.heap.size 31 i0 (.int .u64 0) 1 8 Try.underlying68 hi0 hz0 hz1 hz2 rfl (by decide) _ _ _ rfl (hown.alloc _) ⟨wr.heap.size, 0, none⟩ 1 1 [.int .u64 (r : Int)] rfl rfl (HNW.out _ rfl) HONE.out (by unfold maxLen; omega) (by omega) (by simp; omega) ?_; intro v1 w1 hown1 hg1 _; have hbel1 := (hbel.alloc hbel.size (.cells #[.int .u64 (r : Int)] 31)).grown hg1 (by simp; omega) (fun g hg => (hown.lt g hg).1))
        go_ret
        exact ⟨_, l ++ [r], rfl, HL.out, by rw [List.length_append]; simp; omega, by rw [cells_snoc, List.length_append]; exact hown1, hbel1⟩
      · obtain rfl : r = 1 := by have := HF.out.2.2.1; omega
        have HL := Lib.hid HF.out.1.done
        clear hpp hppl
        go_wp2
        go_ret
        exact ⟨_, l, rfl, HL.out, by omega, hown, hbel⟩
end Go.Proofs.Ytnnohjabneepiaa

namespace Go.Proofs.Ytnnohjabneepiaa
open Go.RowKit Num

def cellsS (l : List Nat) : List Value := l.map fun d => Value.string (bs d)
theorem cellsS_snoc (l : List Nat) (d : Nat) : cellsS (l ++ [d]) = cellsS l ++ [.string (bs d)] := by simp [cellsS]
theorem info_nat : (Try.prog.info? 22).map (fun i => (i.zero, i.size, i.bytes)) = some (some (.string ⟨#[]⟩), 1, 16) := by kernel_rfl

/-- A cell of a slice that the call owns. -/
theorem owns_cell {w : World} {base n : Nat} {e : TypeId} {v : Value} {xs : List Value} (h : w.ownsRow base e 1 v n xs) : ∃ (A : Option Addr) (cap : Nat), v = .slice A n cap ∧ ∀ k, k < n → ∃ g, A = some ⟨g, 0, none⟩ ∧ base ≤ g ∧ g < w.heap.size ∧ w.cell? ⟨g, k, none⟩ = xs[k]? := by
  have hl := h.lt
  rcases h.2 with ⟨h1, h2⟩ | ⟨g, cap, cur, hv, hg, hh, h3, h4, h5, h6⟩
  · exact ⟨none, 0, by rw [h1, h2], fun k hk => absurd hk (by omega)⟩
  · refine ⟨some ⟨g, 0, none⟩, cap, hv, fun k hk => ⟨g, rfl, hg, (hl g (by rw [hv]; rfl)).2, ?_⟩⟩
    rw [cell_of_row w g k cur e (0, 0) hh, ← h6, Nat.mul_one, List.getElem?_take_of_lt hk, Array.getElem?_toList]

theorem ownsRow_le' {w : World} {base base' size n : Nat} {e : TypeId} {v : Value} {xs : List Value} (h : w.ownsRow base e size v n xs) (hb : base' ≤ base) : w.ownsRow base' e size v n xs :=
  ⟨h.1, h.2.elim Or.inl (fun ⟨g, cap, cur, hv, hg, r⟩ => Or.inr ⟨g, cap, cur, hv, Nat.le_trans hb hg, r⟩)⟩
theorem fac_le : ∀ {L : List Nat} {n : Nat}, IsFac n L → ∀ {k : Nat}, k < L.length → L.getD k 0 ≤ n := by
  intro L
  induction L with
  | nil => intro n _ k hk; simp at hk
  | cons p t ih =>
    intro n h k hk
    obtain ⟨⟨h2, hd, _⟩, ht⟩ := h
    have hn : 0 < n := by
      rcases Nat.eq_zero_or_pos n with h0 | h0
      · exfalso
        subst h0
        have h9 : ∀ (t : List Nat), ¬ IsFac 0 t := by
          intro t
          induction t with
          | nil => intro h; exact absurd (show (0 : Nat) = 1 from h) (by decide)
          | cons q u ihu => intro h; have := h.2; rw [Nat.zero_div] at this; exact ihu this
        rw [Nat.zero_div] at ht
        exact h9 t ht
      · exact h0
    cases k with
    | zero => simpa using Nat.le_of_dvd hn hd
    | succ k =>
      have := ih ht (k := k) (by simpa using hk)
      simp only [List.getD_cons_succ]
      exact Nat.le_trans this (Nat.div_le_self _ _)
theorem owns_below {w w' : World} {base n : Nat} {e : TypeId} {v : Value} {xs : List Value} (h : w.ownsRow base e 1 v n xs) (hb : Below w.heap.size w w') : w'.ownsRow base e 1 v n xs := by
  have hl := h.lt
  refine ⟨h.1, h.2.imp id ?_⟩
  rintro ⟨g, cap, cur, hv, hg, hh, h3, h4, h5, h6⟩
  exact ⟨g, cap, cur, hv, hg, (hb.block g (hl g (by rw [hv]; rfl)).2).trans hh, h3, h4, h5, h6⟩

set_option maxHeartbeats 400000 in
set_option maxRecDepth 100000 in
theorem rfactors_err (s : ByteArray) (c : Int) (w : World) (hs : s.size ≤ 1000) (h : (validB s = false ∧ c = 3) ∨ (validB s = true ∧ s.toList.isEmpty = true ∧ c = 11) ∨ (validB s = true ∧ 8 < s.size ∧ c = 5)) :
    Calls Try.prog 25 #[.string s] w (Made w (.tuple #[.slice none 0 0, .int .i64 c])) := by
  have HF := Lib.hid (fun W => formed_any s W (by omega))
  rcases h with ⟨h, rfl⟩ | ⟨h, he, rfl⟩ | ⟨h, h8, rfl⟩
  · rw [h] at HF
    clear h hs
    go_enter Try.func25, Try.ntmps25
    go_wp2_with fail
    refine (HF.out _).mono ?_
    rintro e w1 ⟨rfl, rfl⟩
    go_wp2
    go_ret2
    exact ⟨rfl, Below.refl _ _⟩
  · rw [h] at HF
    clear h hs
    go_enter Try.func25, Try.ntmps25
    go_wp2_with fail
    refine (HF.out _).mono ?_
    rintro e w1 ⟨rfl, rfl⟩
    go_wp2
    go_ret2
    exact ⟨rfl, Below.refl _ _⟩
  · rw [h] at HF
    have HU := Lib.hid (fun W => u4_no s W hs h8)
    have he : s.toList.isEmpty = false := by
      rw [ByteArray.toList_eq]
      cases hc : s.data.toList with
      | nil => have := size_toList s; rw [hc] at this; simp at this; omega
      | cons a l => rfl
    clear h hs h8
    go_enter Try.func25, Try.ntmps25
    go_wp2_with fail
    refine (HF.out _).mono ?_
    rintro e w1 ⟨rfl, rfl⟩
    go_wp2_with fail
    refine (HU.out _).mono ?_
    rintro e w1 ⟨u, rfl, rfl⟩
    go_wp2
    go_ret2
    exact ⟨rfl, Below.refl _ _⟩
set_option maxHeartbeats 400000 in
set_option maxRecDepth 100000 in
theorem rfactors_big (n : Nat) (w : World) (hn : n < 18446744073709551616) (hb : 1099511627776 ≤ n) :
    Calls Try.prog 25 #[.string (bs n)] w (Made w (.tuple #[.slice none 0 0, .int .i64 5])) := by
  have HF := Lib.hid (fun W => formed_yes (top64 hn) W)
  have HU := Lib.hid (fun W => u4_yes n W hn)
  have he : (bs n).toList.isEmpty = false := by rw [bs_isEmpty]; exact beq_false_of_ne (by omega)
  have hd : decide ((1099511627776 : Int) ≤ (n : Int)) = true := by simp; omega
  clear hn hb
  go_enter Try.func25, Try.ntmps25
  go_wp2_with fail
  refine (HF.out _).mono ?_
  rintro e w1 ⟨rfl, rfl⟩
  go_wp2_with fail
  refine (HU.out _).mono ?_
  rintro e w1 ⟨rfl, rfl⟩
  go_wp2
  go_ret2
  exact ⟨rfl, Below.refl _ _⟩

set_option maxHeartbeats 4000000 in
set_option maxRecDepth 100000 in
theorem rfactors_ok (n : Nat) (w : World) (h0 : n ≠ 0) (hn : n < 1099511627776) :
    Calls Try.prog 25 #[.string (bs n)] w fun e w' => ∃ (v : Value) (L : List Nat), e = .returned (.tuple #[v, .int .i64 0]) ∧ IsFac n L ∧ L.length ≤ 40 ∧ w'.ownsRow w.heap.size 22 1 v L.length (cellsS L) ∧ Below w.heap.size w w' := by
  have HF := Lib.hid (fun W => formed_yes (top64 (Nat.lt_trans hn (by decide))) W)
  have HU := Lib.hid (fun W => u4_yes n W (Nat.lt_trans hn (by decide)))
  have HL := Lib.hid (fun W => factorsu_ok n W h0 hn)
  have HO := Lib.hid (fun (k : Nat) (hk : k < 18446744073709551616) W => of4_ok k W hk)
  have he : (bs n).toList.isEmpty = false := by rw [bs_isEmpty]; exact beq_false_of_ne h0
  have hd : decide ((1099511627776 : Int) ≤ (n : Int)) = false := by simp; omega
  obtain ⟨i0, hi0, hz0, hz1, hz2⟩ := info_parts info_nat
  have HN := Lib.hid hn
  clear hn h0
  go_enter Try.func25, Try.ntmps25
  go_wp2_with fail
  refine (HF.out _).mono ?_
  rintro e w1 ⟨rfl, rfl⟩
  go_wp2_with fail
  refine (HU.out _).mono ?_
  rintro e w1 ⟨rfl, rfl⟩
  go_wp2_with fail
  refine (HL.out _).mono ?_
  rintro e w1 ⟨v, L, rfl, hfac, hlen, hown, hbel⟩
  obtain ⟨A, cap, rfl, hcell⟩ := owns_cell hown
  have HC := Lib.hid hcell
  have HFac := Lib.hid hfac
  have HLt : Hid (∀ k, k < L.length → L.getD k 0 < 18446744073709551616) := Lib.hid (fun k hk => by
    have := fac_le hfac (k := k) hk
    have := HN.out
    omega)
  have hbw := hbel.size
  clear hcell hfac hown
  go_wp2
  go_loopw [7, 8] (fun x7 x8 wr => ∃ i : Nat, i ≤ L.length ∧ x8 = .int .i64 i ∧ wr.ownsRow w1.heap.size 22 1 x7 i (cellsS (L.take i)) ∧ Below w1.heap.size w1 wr) (fun _ x8 _ => L.length - (intOf x8).toNat)
  case atStart => exact ⟨0, Nat.zero_le _, rfl, World.ownsRow_nil _ _ _ _, Below.refl _ _⟩
  case round =>
    obtain ⟨i, hi, rfl, hown, hbe⟩ := hrel
    obtain ⟨A1, cap1, rfl⟩ := owns_form hown
    by_cases hlt : i < L.length
    · obtain ⟨g, rfl, hg1, hg2, hg3⟩ := HC.out i hlt
      obtain ⟨p, hp⟩ : ∃ p, p = L.getD i 0 := ⟨_, rfl⟩
      have hc : wr.cell? ⟨g, i, none⟩ = some (.int .u64 (p : Int)) := by
        rw [hbe.cell (p := ⟨g, i, none⟩) hg2, hg3, hp]
        simp [cellsW, hlt]
      have HOp := Lib.hid (HO.out p (by rw [hp]; exact HLt.out i hlt))
      have hgr : g < wr.heap.size := Nat.lt_of_lt_of_le hg2 hbe.size
      have HT : Hid (L.take (i + 1) = L.take i ++ [p]) := Lib.hid (by rw [List.take_succ_eq_append_getElem hlt, hp]; simp [hlt])
      clear hp hg3
      go_wp2_with (first
        | (go_at_call 15; refine (HOp.out _).mono ?_; rintro e wq ⟨rfl, hb⟩; have hown2 := owns_below hown hb; have hbe2 := hbe.trans (hb.mono hbe.size); have HNW := Lib.hid (new_one wq 22 (.string (bs p))); have HONE : Hid (∀ u ∈ [Value.string (bs p)], u.oneCell' = true) := Lib.hid (by intro u hu; simp at hu; subst hu; rfl); have hq := hbe2.size; clear hb)
        | (at_builtin; refine wpList_append_own _ rfl _ _ 47 rfl w1.heap.size 22 i0 (.string ⟨#[]⟩) 1 16 Try.underlying47 hi0 hz0 hz1 hz2 rfl (by decide) _ _ _ rfl (hown2.alloc _) ⟨wq.heap.size, 0, none⟩ 1 1 [.string (bs p)] rfl rfl (HNW.out _ rfl) HONE.out (by unfold maxLen; omega) (by omega) (by simp; omega) ?_; intro v1 w2 hown3 hg4 _; have hbe3 := (hbe2.alloc hbe2.size (.cells #[.string (bs p)] 22)).grown hg4 (by simp; omega) (fun g hg => (hown2.lt g hg).1)))
      go_roundw
      case rel => exact ⟨i + 1, by omega, by go_num, by rw [HT.out, cellsS_snoc]; exact hown3, hbe3⟩
      case measure => simp [intOf]; omega
    · obtain rfl : i = L.length := by omega
      rw [List.take_length] at hown
      have HFin := Lib.hid (ownsRow_le' hown hbw)
      go_wp2
      go_ret2
      exact ⟨_, L, rfl, HFac.out, hlen, HFin.out, hbel.trans (hbe.mono hbw)⟩
end Go.Proofs.Ytnnohjabneepiaa

namespace Go.Proofs.Ytnnohjabneepiaa
open Go.RowKit Num

set_option maxHeartbeats 400000 in
set_option maxRecDepth 100000 in
theorem rnext_form (s : ByteArray) (w : World) (hs : s.size ≤ 9223372036854775807) (h : validB s = false) :
    Calls Try.prog 20 #[.string s] w (Made w (.tuple #[.string ⟨#[]⟩, .int .i64 3])) := by
  have HF := Lib.hid (fun W => formed_any s W hs)
  rw [h] at HF
  clear hs h
  go_enter Try.func20, Try.ntmps20
  go_wp2_with fail
  refine (HF.out _).mono ?_
  rintro e w1 ⟨rfl, rfl⟩
  go_wp2
  go_ret2
  exact ⟨rfl, Below.refl _ _⟩
set_option maxHeartbeats 400000 in
set_option maxRecDepth 100000 in
theorem rnext_long (s : ByteArray) (w : World) (hs : s.size ≤ 1000) (h : validB s = true) (h8 : 8 < s.size) :
    Calls Try.prog 20 #[.string s] w (Made w (.tuple #[.string ⟨#[]⟩, .int .i64 5])) := by
  have HF := Lib.hid (fun W => formed_any s W (by omega))
  rw [h] at HF
  have HU := Lib.hid (fun W => u4_no s W hs h8)
  clear hs h h8
  go_enter Try.func20, Try.ntmps20
  go_wp2_with fail
  refine (HF.out _).mono ?_
  rintro e w1 ⟨rfl, rfl⟩
  go_wp2_with fail
  refine (HU.out _).mono ?_
  rintro e w1 ⟨u, rfl, rfl⟩
  go_wp2
  go_ret2
  exact ⟨rfl, Below.refl _ _⟩
set_option maxHeartbeats 1000000 in
set_option maxRecDepth 100000 in
theorem rnext_ok (n m : Nat) (w : World) (hn : n < 18446744073709551616) (hm : NextR n m) :
    Calls Try.prog 20 #[.string (bs n)] w (Made w (.tuple #[.string (bs m), .int .i64 (if m = 0 then 5 else 0)])) := by
  have HF := Lib.hid (fun W => formed_yes (top64 hn) W)
  have HU := Lib.hid (fun W => u4_yes n W hn)
  have HX := Lib.hid (fun W => rnextu_ok n m W hn hm)
  have HO := Lib.hid (fun W => of4_ok m W (by rcases hm with ⟨_, h, _⟩ | ⟨h, _⟩ <;> omega))
  clear hn hm
  by_cases h0 : m = 0
  · rw [if_pos h0]
    subst h0
    rw [decide_eq_false (by simp)] at HX
    go_enter Try.func20, Try.ntmps20
    go_wp2_with fail
    refine (HF.out _).mono ?_
    rintro e w1 ⟨rfl, rfl⟩
    go_wp2_with fail
    refine (HU.out _).mono ?_
    rintro e w1 ⟨rfl, rfl⟩
    go_wp2_with fail
    refine (HX.out _).mono ?_
    rintro e w1 ⟨rfl, HV⟩
    go_wp2
    go_ret2
    exact ⟨by rw [bs_zero]; rfl, HV⟩
  · rw [if_neg h0]
    rw [decide_eq_true h0] at HX
    clear h0
    go_enter Try.func20, Try.ntmps20
    go_wp2_with fail
    refine (HF.out _).mono ?_
    rintro e w1 ⟨rfl, rfl⟩
    go_wp2_with fail
    refine (HU.out _).mono ?_
    rintro e w1 ⟨rfl, rfl⟩
    go_wp2_with fail
    refine (HX.out _).mono ?_
    rintro e w1 ⟨rfl, HV⟩
    go_wp2_with fail
    refine (HO.out _).mono ?_
    rintro e w2 ⟨rfl, hb⟩
    replace HV := HV.trans (hb.mono HV.size)
    clear hb
    go_wp2
    go_ret2
    exact ⟨rfl, HV⟩

set_option maxHeartbeats 1000000 in
set_option maxRecDepth 100000 in
/-- Two slices of the same numbers are equal. -/
theorem equal_ok (A1 A2 : Option Addr) (c1 c2 : Nat) (L : List Nat) (w : World) (hL : L.length ≤ 1000)
    (h1 : ∀ k, k < L.length → ∃ g, A1 = some ⟨g, 0, none⟩ ∧ g < w.heap.size ∧ w.cell? ⟨g, k, none⟩ = some (.string (bs (L.getD k 0))))
    (h2 : ∀ k, k < L.length → ∃ g, A2 = some ⟨g, 0, none⟩ ∧ g < w.heap.size ∧ w.cell? ⟨g, k, none⟩ = some (.string (bs (L.getD k 0)))) :
    Calls Try.prog 26 #[.slice A1 L.length c1, .slice A2 L.length c2] w (Made w (.bool true)) := by
  have H1 := Lib.hid h1
  have H2 := Lib.hid h2
  clear h1 h2
  go_enter Try.func26, Try.ntmps26
  go_wp2
  go_loopw [13] (fun x13 wr => ∃ i : Nat, i ≤ L.length ∧ x13 = .int .i64 i ∧ Below w.heap.size w wr) (fun x13 _ => L.length - (intOf x13).toNat)
  case atStart => exact ⟨0, Nat.zero_le _, rfl, Below.refl _ _⟩
  case round =>
    obtain ⟨i, hi, rfl, HV⟩ := hrel
    by_cases hlt : i < L.length
    · obtain ⟨g1, rfl, hg1, hc1⟩ := H1.out i hlt
      obtain ⟨g2, rfl, hg2, hc2⟩ := H2.out i hlt
      have d1 := (HV.cell (p := ⟨g1, i, none⟩) hg1).trans hc1
      have d2 := (HV.cell (p := ⟨g2, i, none⟩) hg2).trans hc2
      have l1 : g1 < wr.heap.size := Nat.lt_of_lt_of_le hg1 HV.size
      have l2 : g2 < wr.heap.size := Nat.lt_of_lt_of_le hg2 HV.size
      generalize L.getD i 0 = p at *
      clear hc1 hc2
      go_wp2
      go_quiet (fail)
      go_wp2
      go_roundw
      case rel => exact ⟨i + 1, by omega, by go_num, below_draws HV _⟩
      case measure => simp [intOf]; omega
    · go_wp2
      go_ret
      exact ⟨rfl, HV⟩
end Go.Proofs.Ytnnohjabneepiaa
