/-
  modular.check and dominoref03.check for all arguments.
-/
import Derived.Test.YtppdolmeeiookaaModV
import Derived.Test.YtppdolmeeiookaaModY
namespace Go.Proofs.Ytppdolmeeiookaa
open Go.RowKit Num

/-- What the checks of arguments answer. -/
def chkE (v em : Bool) : Int := if v = true then (if em = true then 11 else 0) else 3

set_option maxHeartbeats 1000000 in
set_option maxRecDepth 100000 in
theorem rcheck_any (k : Nat) (f : Nat → ByteArray) (g : Nat) (w : World) (v em : Bool) (hk : k = 2 ∨ k = 3) (hs : ∀ i, i < k → (f i).size ≤ 9223372036854775807) (hc : ∀ i, i < k → w.cell? ⟨g, i, none⟩ = some (.string (f i))) (hg : g < w.heap.size)
    (hv : v = true ↔ ∀ i, i < k → validB (f i) = true) (hem : v = true → (f (k - 1)).toList.isEmpty = em) :
    Calls Try.prog 36 #[.slice (some ⟨g, 0, none⟩) k k] w (Same w (.int .i64 (chkE v em))) := by
  have HV := Lib.hid (fun i (h : i < k) W => rvalid_any (f i) W (hs i h))
  have HC := Lib.hid hc
  have HI := Lib.hid hv
  have HE := Lib.hid hem
  have HK := Lib.hid hk
  have k8 : k ≤ 3 := by omega
  have k2 : 2 ≤ k := by omega
  obtain ⟨c, hcc⟩ : ∃ c, c = chkE v em := ⟨_, rfl⟩
  rw [← hcc]
  have HCC := Lib.hid hcc
  clear hs hc hv hem hk hcc
  go_enter Try.func36, Try.ntmps36
  go_wp2
  go_loopw [3] (fun x wr => ∃ i : Nat, i ≤ k ∧ x = .int .i64 i ∧ Hid (∀ j, j < i → validB (f j) = true) ∧ wr = w) (fun x _ => k - (intOf x).toNat)
  case atStart => exact ⟨0, Nat.zero_le _, rfl, Lib.hid (fun j hj => absurd hj (Nat.not_lt_zero j)), rfl⟩
  case round =>
    obtain ⟨i, hi, rfl, HJ, rfl⟩ := hrel
    by_cases hlt : i < k
    · have hci := HC.out i hlt
      have HVi := Lib.hid (HV.out i hlt)
      rcases hvi : validB (f i) with _ | _
      · rw [hvi] at HVi
        obtain rfl : c = 3 := by
          rw [HCC.out]
          have : v = false := by
            rcases v with _ | _
            · rfl
            · have := HI.out.1 rfl i hlt
              rw [hvi] at this
              cases this
          rw [this]
          rfl
        go_wp2_with (go_at_call 15; refine (HVi.out _).mono ?_; rintro e w' ⟨rfl, rfl⟩)
        go_ret
        exact ⟨rfl, rfl⟩
      · rw [hvi] at HVi
        have HJ2 := Lib.hid (fun (j : Nat) (hj : j < i + 1) => (show validB (f j) = true from by
          by_cases hji : j = i
          · subst hji; exact hvi
          · exact HJ.out j (by omega)))
        clear hvi
        go_wp2_with (go_at_call 15; refine (HVi.out _).mono ?_; rintro e w' ⟨rfl, rfl⟩)
        go_roundw
        case rel => exact ⟨i + 1, by omega, by go_num, HJ2, trivial⟩
        case measure => simp [intOf]; omega
    · obtain rfl : i = k := by omega
      have hvt : v = true := HI.out.2 HJ.out
      have hz := HE.out hvt
      have hl := HC.out (i - 1) (by omega)
      have hcc := HCC.out
      rw [hvt] at hcc
      clear hvt HI HE HCC
      rcases HK.out with rfl | rfl
      all_goals
        simp only [show 2 - 1 = 1 from rfl, show 3 - 1 = 2 from rfl] at hz hl
        rcases em with _ | _
        all_goals
          simp [chkE] at hcc
          subst hcc
          go_wp2
          go_ret
          exact ⟨rfl, rfl⟩

set_option maxHeartbeats 1000000 in
set_option maxRecDepth 100000 in
theorem mcheck_any (M : ByteArray) (k : Nat) (f : Nat → ByteArray) (g : Nat) (w : World) (v em : Bool) (hM : M.size ≤ 9223372036854775807) (hk : k ≤ 8) (hs : ∀ i, i < k → (f i).size ≤ 9223372036854775807) (hc : ∀ i, i < k → w.cell? ⟨g, i, none⟩ = some (.string (f i))) (hg : g < w.heap.size)
    (hv : v = true ↔ (∀ i, i < k → validB (f i) = true) ∧ validB M = true) (hem : v = true → M.toList.isEmpty = em) :
    Calls Try.prog 24 #[.string M, .slice (some ⟨g, 0, none⟩) k k] w (Same w (.int .i64 (chkE v em))) := by
  have HM := Lib.hid (fun W => valid_any M W hM)
  have HV := Lib.hid (fun i (h : i < k) W => valid_any (f i) W (hs i h))
  have HC := Lib.hid hc
  have HI := Lib.hid hv
  have HE := Lib.hid hem
  obtain ⟨c, hcc⟩ : ∃ c, c = chkE v em := ⟨_, rfl⟩
  rw [← hcc]
  have HCC := Lib.hid hcc
  clear hs hc hv hem hcc hM
  go_enter Try.func24, Try.ntmps24
  go_wp2
  go_loopw [9] (fun x wr => ∃ i : Nat, i ≤ k ∧ x = .int .i64 i ∧ Hid (∀ j, j < i → validB (f j) = true) ∧ wr = w) (fun x _ => k - (intOf x).toNat)
  case atStart => exact ⟨0, Nat.zero_le _, rfl, Lib.hid (fun j hj => absurd hj (Nat.not_lt_zero j)), rfl⟩
  case round =>
    obtain ⟨i, hi, rfl, HJ, rfl⟩ := hrel
    by_cases hlt : i < k
    · have hci := HC.out i hlt
      have HVi := Lib.hid (HV.out i hlt)
      rcases hvi : validB (f i) with _ | _
      · rw [hvi] at HVi
        obtain rfl : c = 3 := by
          rw [HCC.out]
          have : v = false := by
            rcases v with _ | _
            · rfl
            · have := (HI.out.1 rfl).1 i hlt
              rw [hvi] at this
              cases this
          rw [this]
          rfl
        go_wp2_with (go_at_call 23; refine (HVi.out _).mono ?_; rintro e w' ⟨rfl, rfl⟩)
        go_ret
        exact ⟨rfl, rfl⟩
      · rw [hvi] at HVi
        have HJ2 := Lib.hid (fun (j : Nat) (hj : j < i + 1) => (show validB (f j) = true from by
          by_cases hji : j = i
          · subst hji; exact hvi
          · exact HJ.out j (by omega)))
        clear hvi
        go_wp2_with (go_at_call 23; refine (HVi.out _).mono ?_; rintro e w' ⟨rfl, rfl⟩)
        go_roundw
        case rel => exact ⟨i + 1, by omega, by go_num, HJ2, trivial⟩
        case measure => simp [intOf]; omega
    · obtain rfl : i = k := by omega
      rcases hvm : validB M with _ | _
      · rw [hvm] at HM
        obtain rfl : c = 3 := by
          rw [HCC.out]
          have : v = false := by
            rcases v with _ | _
            · rfl
            · have := (HI.out.1 rfl).2
              rw [hvm] at this
              cases this
          rw [this]
          rfl
        go_wp2_with (go_at_call 23; refine (HM.out _).mono ?_; rintro e w' ⟨rfl, rfl⟩)
        go_ret
        exact ⟨rfl, rfl⟩
      · have hvt : v = true := HI.out.2 ⟨HJ.out, hvm⟩
        have hz := HE.out hvt
        have hcc := HCC.out
        rw [hvm] at HM
        rw [hvt] at hcc
        clear hvt HI HE HCC
        rcases em with _ | _
        all_goals
          simp [chkE] at hcc
          subst hcc
          go_wp2_with (go_at_call 23; refine (HM.out _).mono ?_; rintro e w' ⟨rfl, rfl⟩)
          go_ret
          exact ⟨rfl, rfl⟩
end Go.Proofs.Ytppdolmeeiookaa
