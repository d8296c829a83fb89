/-
  modular.check and dominoref03.check for all arguments. dominoref03.Jacobi for canonical arguments and an odd modulus. modular.Add, Sub, Mul, Exp, Inverse, Power and the reference's, where an argument is not canonical or the modulus is 0. dominoref03.Add, Sub, times, Mul, raise, Exp, Inverse, Power for canonical arguments and a modulus of at most 8 bytes. modular.Power and the reference's, where an argument is not canonical or the modulus is 0.
-/
import Derived.Test.YtmiafkbjmkaebaaGreatModV
import Derived.Test.YtmiafkbjmkaebaaGreatMY
import Derived.Test.YtmiafkbjmkaebaaGreatIntA
import Derived.Test.YtmiafkbjmkaebaaGreatIntXY
import Derived.Test.YtmiafkbjmkaebaaGreatIntM
namespace Go.Proofs.YtmiafkbjmkaebaaGreat
open Go.RowKit Num

/-- What the checks of arguments answer. -/
def chkE (v em : Bool) : Int := if v = true then (if em = true then 11 else 0) else 3

set_option maxHeartbeats 1000000 in
set_option maxRecDepth 100000 in
theorem rcheck_any (k : Nat) (f : Nat → ByteArray) (g : Nat) (w : World) (v em : Bool) (hk : k = 2 ∨ k = 3) (hs : ∀ i, i < k → (f i).size ≤ 9223372036854775807) (hc : ∀ i, i < k → w.cell? ⟨g, i, none⟩ = some (.string (f i))) (hg : g < w.heap.size)
    (hv : v = true ↔ ∀ i, i < k → validB (f i) = true) (hem : v = true → (f (k - 1)).toList.isEmpty = em) :
    Calls Tryz.prog 62 #[.slice (some ⟨g, 0, none⟩) k k] w (Same w (.int .i64 (chkE v em))) := by
  have HV := Lib.hid (fun i (h : i < k) W => rvalid_any (f i) W (hs i h))
  have HC := Lib.hid hc
  have HI := Lib.hid hv
  have HE := Lib.hid hem
  have HK := Lib.hid hk
  have k8 : k ≤ 3 := by omega
  have k2 : 2 ≤ k := by omega
  obtain ⟨c, hcc⟩ : ∃ c, c = chkE v em := ⟨_, rfl⟩
  rw [← hcc]
  have HCC := Lib.hid hcc
  clear hs hc hv hem hk hcc
  go_enter Tryz.func62, Tryz.ntmps62
  go_wp2
  go_loopw [3] (fun x wr => ∃ i : Nat, i ≤ k ∧ x = .int .i64 i ∧ Hid (∀ j, j < i → validB (f j) = true) ∧ wr = w) (fun x _ => k - (intOf x).toNat)
  case atStart => exact ⟨0, Nat.zero_le _, rfl, Lib.hid (fun j hj => absurd hj (Nat.not_lt_zero j)), rfl⟩
  case round =>
    obtain ⟨i, hi, rfl, HJ, rfl⟩ := hrel
    by_cases hlt : i < k
    · have hci := HC.out i hlt
      have HVi := Lib.hid (HV.out i hlt)
      rcases hvi : validB (f i) with _ | _
      · rw [hvi] at HVi
        obtain rfl : c = 3 := by
          rw [HCC.out]
          have : v = false := by
            rcases v with _ | _
            · rfl
            · have := HI.out.1 rfl i hlt
              rw [hvi] at this
              cases this
          rw [this]
          rfl
        go_wp2_with (go_at_call 35; refine (HVi.out _).mono ?_; rintro e w' ⟨rfl, rfl⟩)
        go_ret
        exact ⟨rfl, rfl⟩
      · rw [hvi] at HVi
        have HJ2 := Lib.hid (fun (j : Nat) (hj : j < i + 1) => (show validB (f j) = true from by
          by_cases hji : j = i
          · subst hji; exact hvi
          · exact HJ.out j (by omega)))
        clear hvi
        go_wp2_with (go_at_call 35; refine (HVi.out _).mono ?_; rintro e w' ⟨rfl, rfl⟩)
        go_roundw
        case rel => exact ⟨i + 1, by omega, by go_num, HJ2, trivial⟩
        case measure => simp [intOf]; omega
    · obtain rfl : i = k := by omega
      have hvt : v = true := HI.out.2 HJ.out
      have hz := HE.out hvt
      have hl := HC.out (i - 1) (by omega)
      have hcc := HCC.out
      rw [hvt] at hcc
      clear hvt HI HE HCC
      rcases HK.out with rfl | rfl
      all_goals
        simp only [show 2 - 1 = 1 from rfl, show 3 - 1 = 2 from rfl] at hz hl
        rcases em with _ | _
        all_goals
          simp [chkE] at hcc
          subst hcc
          go_wp2
          go_ret
          exact ⟨rfl, rfl⟩

set_option maxHeartbeats 1000000 in
set_option maxRecDepth 100000 in
theorem mcheck_any (M : ByteArray) (k : Nat) (f : Nat → ByteArray) (g : Nat) (w : World) (v em : Bool) (hM : M.size ≤ 9223372036854775807) (hk : k ≤ 8) (hs : ∀ i, i < k → (f i).size ≤ 9223372036854775807) (hc : ∀ i, i < k → w.cell? ⟨g, i, none⟩ = some (.string (f i))) (hg : g < w.heap.size)
    (hv : v = true ↔ (∀ i, i < k → validB (f i) = true) ∧ validB M = true) (hem : v = true → M.toList.isEmpty = em) :
    Calls Tryz.prog 56 #[.string M, .slice (some ⟨g, 0, none⟩) k k] w (Same w (.int .i64 (chkE v em))) := by
  have HM := Lib.hid (fun W => valid_any M W hM)
  have HV := Lib.hid (fun i (h : i < k) W => valid_any (f i) W (hs i h))
  have HC := Lib.hid hc
  have HI := Lib.hid hv
  have HE := Lib.hid hem
  obtain ⟨c, hcc⟩ : ∃ c, c = chkE v em := ⟨_, rfl⟩
  rw [← hcc]
  have HCC := Lib.hid hcc
  clear hs hc hv hem hcc hM
  go_enter Tryz.func56, Tryz.ntmps56
  go_wp2
  go_loopw [9] (fun x wr => ∃ i : Nat, i ≤ k ∧ x = .int .i64 i ∧ Hid (∀ j, j < i → validB (f j) = true) ∧ wr = w) (fun x _ => k - (intOf x).toNat)
  case atStart => exact ⟨0, Nat.zero_le _, rfl, Lib.hid (fun j hj => absurd hj (Nat.not_lt_zero j)), rfl⟩
  case round =>
    obtain ⟨i, hi, rfl, HJ, rfl⟩ := hrel
    by_cases hlt : i < k
    · have hci := HC.out i hlt
      have HVi := Lib.hid (HV.out i hlt)
      rcases hvi : validB (f i) with _ | _
      · rw [hvi] at HVi
        obtain rfl : c = 3 := by
          rw [HCC.out]
          have : v = false := by
            rcases v with _ | _
            · rfl
            · have := (HI.out.1 rfl).1 i hlt
              rw [hvi] at this
              cases this
          rw [this]
          rfl
        go_wp2_with (go_at_call 31; refine (HVi.out _).mono ?_; rintro e w' ⟨rfl, rfl⟩)
        go_ret
        exact ⟨rfl, rfl⟩
      · rw [hvi] at HVi
        have HJ2 := Lib.hid (fun (j : Nat) (hj : j < i + 1) => (show validB (f j) = true from by
          by_cases hji : j = i
          · subst hji; exact hvi
          · exact HJ.out j (by omega)))
        clear hvi
        go_wp2_with (go_at_call 31; refine (HVi.out _).mono ?_; rintro e w' ⟨rfl, rfl⟩)
        go_roundw
        case rel => exact ⟨i + 1, by omega, by go_num, HJ2, trivial⟩
        case measure => simp [intOf]; omega
    · obtain rfl : i = k := by omega
      rcases hvm : validB M with _ | _
      · rw [hvm] at HM
        obtain rfl : c = 3 := by
          rw [HCC.out]
          have : v = false := by
            rcases v with _ | _
            · rfl
            · have := (HI.out.1 rfl).2
              rw [hvm] at this
              cases this
          rw [this]
          rfl
        go_wp2_with (go_at_call 31; refine (HM.out _).mono ?_; rintro e w' ⟨rfl, rfl⟩)
        go_ret
        exact ⟨rfl, rfl⟩
      · have hvt : v = true := HI.out.2 ⟨HJ.out, hvm⟩
        have hz := HE.out hvt
        have hcc := HCC.out
        rw [hvm] at HM
        rw [hvt] at hcc
        clear hvt HI HE HCC
        rcases em with _ | _
        all_goals
          simp [chkE] at hcc
          subst hcc
          go_wp2_with (go_at_call 31; refine (HM.out _).mono ?_; rintro e w' ⟨rfl, rfl⟩)
          go_ret
          exact ⟨rfl, rfl⟩
end Go.Proofs.YtmiafkbjmkaebaaGreat

namespace Go.Proofs.YtmiafkbjmkaebaaGreat
open Go.RowKit Num

theorem bitR_out {a : Nat} (ha : a < Top) (i : Int) (w : World) (hi0 : 0 ≤ i) (hi : (nb a : Int) ≤ i) : Calls Tryz.prog 93 #[.string (bs a), .int .i64 i] w (Same w (.bool false)) := by
  have hs := bs_small ha
  have HA := Lib.hid ha
  clear ha
  go_enter Tryz.func93, Tryz.ntmps93
  go_wp2_with (first | (go_at_call 35; refine (rvalid_yes HA.out _).mono ?_; rintro e w' ⟨rfl, rfl⟩) | (go_at_call 79; refine (rbits_any a _ (by omega)).mono ?_; rintro e w' ⟨rfl, rfl⟩))
  go_ret
  exact ⟨rfl, rfl⟩
theorem bitR_in {a : Nat} (ha : a < Top) (i : Nat) (w : World) (hi : i < nb a) : Calls Tryz.prog 93 #[.string (bs a), .int .i64 i] w (Same w (.bool (bitB a i))) := by
  have hs := bs_small ha
  have hlt := nb_size hi
  have HA := Lib.hid ha
  have hii : (i : Int) < (nb a : Int) := by omega
  have h8 : i ≤ 100000 := by omega
  have HD : Hid (decide (i < nb a) = true) := Lib.hid (by simpa using hi)
  have hd := HD.out
  clear ha
  go_enter Tryz.func93, Tryz.ntmps93
  go_wp2_with (first | (go_at_call 35; refine (rvalid_yes HA.out _).mono ?_; rintro e w' ⟨rfl, rfl⟩) | (go_at_call 79; refine (rbits_any a _ (by omega)).mono ?_; rintro e w' ⟨rfl, rfl⟩) | (go_at_call 81; refine (one_any a i _ (by omega) (by omega)).mono ?_; rintro e w' ⟨rfl, rfl⟩))
  go_ret
  exact ⟨rfl, rfl⟩
theorem bitR_all {a : Nat} (ha : a < Top) (i : Nat) (w : World) : Calls Tryz.prog 93 #[.string (bs a), .int .i64 i] w (Same w (.bool (bitB a i))) := by
  by_cases h : i < nb a
  · exact bitR_in ha i w h
  · have : bitB a i = false := by
      rcases hb : bitB a i with _ | _
      · rfl
      · exact absurd (bit_nb hb) h
    rw [this]
    exact bitR_out ha i w (by omega) (by omega)

theorem tz_even {x : Nat} (h0 : x ≠ 0) (h : x % 2 = 0) : tzN x = tzN (x / 2) + 1 ∧ x / 2 ^ tzN x = x / 2 / 2 ^ tzN (x / 2) := by
  have e : tzN x = tzN (x / 2) + 1 := by
    conv => lhs; unfold tzN
    rw [dif_pos ⟨h0, h⟩]
  refine ⟨e, ?_⟩
  rw [e, Nat.pow_succ, Nat.mul_comm, ← Nat.div_div_eq_div_mul]
theorem tz_odd {x : Nat} (h : x % 2 = 1) : tzN x = 0 ∧ x / 2 ^ tzN x = x := by
  have e : tzN x = 0 := by
    unfold tzN
    rw [dif_neg (by omega)]
  exact ⟨e, by rw [e]; simp⟩
theorem fl_bits {n : Nat} (h : n % 2 = 1) : (bitB n 1 ≠ bitB n 2) ↔ (n % 8 = 3 ∨ n % 8 = 5) := by
  unfold bitB
  rw [show 2 ^ 1 = 2 from rfl, show 2 ^ 2 = 4 from rfl]
  have h8 : n % 8 = 1 ∨ n % 8 = 3 ∨ n % 8 = 5 ∨ n % 8 = 7 := by omega
  rcases h8 with h8 | h8 | h8 | h8
  · rw [show n / 2 % 2 = 0 from by omega, show n / 4 % 2 = 0 from by omega]; simp [h8]
  · rw [show n / 2 % 2 = 1 from by omega, show n / 4 % 2 = 0 from by omega]; simp [h8]
  · rw [show n / 2 % 2 = 0 from by omega, show n / 4 % 2 = 1 from by omega]; simp [h8]
  · rw [show n / 2 % 2 = 1 from by omega, show n / 4 % 2 = 1 from by omega]; simp [h8]

theorem flip_next {t u : Nat} {F : Prop} [Decidable F] {s s1 : Int} (hu : u = t + 1) (h : (if u % 2 = 1 ∧ F then -s else s) = s1) : (if t % 2 = 1 ∧ F then -(if F then -s else s) else (if F then -s else s)) = s1 := by
  subst hu
  by_cases hF : F
  · rcases (show t % 2 = 0 ∨ t % 2 = 1 by omega) with ht | ht
    · have : (t + 1) % 2 = 1 := by omega
      simpa [hF, ht, this] using h
    · have : (t + 1) % 2 = 0 := by omega
      simpa [hF, ht, this] using h
  · simpa [hF] using h

end Go.Proofs.YtmiafkbjmkaebaaGreat

namespace Go.Proofs.YtmiafkbjmkaebaaGreat
open Go.RowKit Num

theorem chk_two {v em : Bool} (h : v = false ∨ em = true) : (v = false ∧ chkE v em = 3) ∨ (v = true ∧ em = true ∧ chkE v em = 11) := by
  unfold chkE
  cases v <;> cases em <;> simp_all
theorem and3 {x y z v : Bool} (h : (x && y && z) = v) : v = true ↔ x = true ∧ y = true ∧ z = true := by rw [← h]; simp [and_assoc]
theorem and2 {x y v : Bool} (h : (x && y) = v) : v = true ↔ x = true ∧ y = true := by rw [← h]; simp

theorem rcheck3 (s t u : ByteArray) (v em : Bool) (g : Nat) (W : World) (hs : s.size ≤ 9223372036854775807) (ht : t.size ≤ 9223372036854775807) (hu : u.size ≤ 9223372036854775807) (h1 : W.cell? ⟨g, 0, none⟩ = some (.string s)) (h2 : W.cell? ⟨g, 1, none⟩ = some (.string t)) (h3 : W.cell? ⟨g, 2, none⟩ = some (.string u)) (hg : g < W.heap.size) (hv : (validB s && validB t && validB u) = v) (hem : u.toList.isEmpty = em) :
    Calls Tryz.prog 62 #[.slice (some ⟨g, 0, none⟩) 3 3] W (Same W (.int .i64 (chkE v em))) := by
  have hvi := and3 hv
  refine rcheck_any 3 (fun i => if i = 0 then s else if i = 1 then t else u) g W v em (.inr rfl) (fun i _ => ?_) (fun i hi => ?_) hg ⟨fun h i _ => ?_, fun h => hvi.2 ⟨h 0 (by omega), h 1 (by omega), h 2 (by omega)⟩⟩ (fun _ => hem)
  · split
    · exact hs
    · split <;> assumption
  · rcases (show i = 0 ∨ i = 1 ∨ i = 2 by omega) with rfl | rfl | rfl
    · exact h1
    · exact h2
    · exact h3
  · split
    · exact (hvi.1 h).1
    · split
      · exact (hvi.1 h).2.1
      · exact (hvi.1 h).2.2
theorem rcheck2 (s u : ByteArray) (v em : Bool) (g : Nat) (W : World) (hs : s.size ≤ 9223372036854775807) (hu : u.size ≤ 9223372036854775807) (h1 : W.cell? ⟨g, 0, none⟩ = some (.string s)) (h2 : W.cell? ⟨g, 1, none⟩ = some (.string u)) (hg : g < W.heap.size) (hv : (validB s && validB u) = v) (hem : u.toList.isEmpty = em) :
    Calls Tryz.prog 62 #[.slice (some ⟨g, 0, none⟩) 2 2] W (Same W (.int .i64 (chkE v em))) := by
  have hvi := and2 hv
  refine rcheck_any 2 (fun i => if i = 0 then s else u) g W v em (.inl rfl) (fun i _ => ?_) (fun i hi => ?_) hg ⟨fun h i _ => ?_, fun h => hvi.2 ⟨h 0 (by omega), h 1 (by omega)⟩⟩ (fun _ => hem)
  · split <;> assumption
  · rcases (show i = 0 ∨ i = 1 by omega) with rfl | rfl
    · exact h1
    · exact h2
  · split
    · exact (hvi.1 h).1
    · exact (hvi.1 h).2

set_option maxHeartbeats 1000000 in
set_option maxRecDepth 100000 in
theorem mMul_err (s t u : ByteArray) (v em : Bool) (hs : s.size ≤ 9223372036854775807) (ht : t.size ≤ 9223372036854775807) (hu : u.size ≤ 9223372036854775807) (hv : (validB s && validB t && validB u) = v) (hem : u.toList.isEmpty = em) (h : v = false ∨ em = true) (w : World) :
    Calls Tryz.prog 39 #[.string s, .string t, .string u] w (Made w (.tuple #[.string ⟨#[]⟩, .int .i64 (chkE v em)])) := by
  have hvi := and3 hv
  have HC := Lib.hid (fun (W : World) (g : Nat) (h1 : W.cell? ⟨g, 0, none⟩ = some (.string s)) (h2 : W.cell? ⟨g, 1, none⟩ = some (.string t)) (h3 : g < W.heap.size) => mcheck_any u 2 (fun i => if i = 0 then s else t) g W v em hu (by omega) (fun i _ => by split <;> assumption) (fun i hi => by
    rcases (show i = 0 ∨ i = 1 by omega) with rfl | rfl
    · exact h1
    · exact h2) h3 ⟨fun h => ⟨fun i _ => by split; exact (hvi.1 h).1; exact (hvi.1 h).2.1, (hvi.1 h).2.2⟩, fun h => hvi.2 ⟨h.1 0 (by omega), h.1 1 (by omega), h.2⟩⟩ (fun _ => hem))
  clear hv hvi hem
  rcases chk_two h with ⟨_, hc⟩ | ⟨_, _, hc⟩
  all_goals
    rw [hc] at HC ⊢
    clear hc h
    go_enter Tryz.func39, Tryz.ntmps39
    go_wp2_with fail
    have K0 := Bk.new w #[.string s, .string t] 22
    refine (HC.out _ _ (K0.cell 0) (K0.cell 1) K0.lt).mono ?_
    rintro e w' ⟨rfl, rfl⟩
    have HV : Below w.heap.size w (w.alloc (.cells #[.string s, .string t] 22)) := (Below.refl _ _).alloc (Nat.le_refl _) _
    go_wp2
    go_ret2
    exact ⟨rfl, HV⟩

set_option maxHeartbeats 1000000 in
set_option maxRecDepth 100000 in
theorem rMul_err (s t u : ByteArray) (v em : Bool) (hs : s.size ≤ 9223372036854775807) (ht : t.size ≤ 9223372036854775807) (hu : u.size ≤ 9223372036854775807) (hv : (validB s && validB t && validB u) = v) (hem : u.toList.isEmpty = em) (h : v = false ∨ em = true) (w : World) :
    Calls Tryz.prog 40 #[.string s, .string t, .string u] w (Made w (.tuple #[.string ⟨#[]⟩, .int .i64 (chkE v em)])) := by
  have HC := Lib.hid (fun (W : World) (g : Nat) (h1 : W.cell? ⟨g, 0, none⟩ = some (.string s)) (h2 : W.cell? ⟨g, 1, none⟩ = some (.string t)) (h3' : W.cell? ⟨g, 2, none⟩ = some (.string u)) (h3 : g < W.heap.size) => rcheck3 s t u v em g W hs ht hu h1 h2 h3' h3 hv hem)
  clear hv hem
  rcases chk_two h with ⟨_, hc⟩ | ⟨_, _, hc⟩
  all_goals
    rw [hc] at HC ⊢
    clear hc h
    go_enter Tryz.func40, Tryz.ntmps40
    go_wp2_with fail
    have K0 := Bk.new w #[.string s, .string t, .string u] 22
    refine (HC.out _ _ (K0.cell 0) (K0.cell 1) (K0.cell 2) K0.lt).mono ?_
    rintro e w' ⟨rfl, rfl⟩
    have HV : Below w.heap.size w (w.alloc (.cells #[.string s, .string t, .string u] 22)) := (Below.refl _ _).alloc (Nat.le_refl _) _
    go_wp2
    go_ret2
    exact ⟨rfl, HV⟩

set_option maxHeartbeats 1000000 in
set_option maxRecDepth 100000 in
theorem mExp_err (s t u : ByteArray) (v em : Bool) (hs : s.size ≤ 9223372036854775807) (ht : t.size ≤ 9223372036854775807) (hu : u.size ≤ 9223372036854775807) (hv : (validB s && validB t && validB u) = v) (hem : u.toList.isEmpty = em) (h : v = false ∨ em = true) (w : World) :
    Calls Tryz.prog 33 #[.string s, .string t, .string u] w (Made w (.tuple #[.string ⟨#[]⟩, .int .i64 (chkE v em)])) := by
  have hvi := and3 hv
  have HC := Lib.hid (fun (W : World) (g : Nat) (h1 : W.cell? ⟨g, 0, none⟩ = some (.string s)) (h2 : W.cell? ⟨g, 1, none⟩ = some (.string t)) (h3 : g < W.heap.size) => mcheck_any u 2 (fun i => if i = 0 then s else t) g W v em hu (by omega) (fun i _ => by split <;> assumption) (fun i hi => by
    rcases (show i = 0 ∨ i = 1 by omega) with rfl | rfl
    · exact h1
    · exact h2) h3 ⟨fun h => ⟨fun i _ => by split; exact (hvi.1 h).1; exact (hvi.1 h).2.1, (hvi.1 h).2.2⟩, fun h => hvi.2 ⟨h.1 0 (by omega), h.1 1 (by omega), h.2⟩⟩ (fun _ => hem))
  clear hv hvi hem
  rcases chk_two h with ⟨_, hc⟩ | ⟨_, _, hc⟩
  all_goals
    rw [hc] at HC ⊢
    clear hc h
    go_enter Tryz.func33, Tryz.ntmps33
    go_wp2_with fail
    have K0 := Bk.new w #[.string s, .string t] 22
    refine (HC.out _ _ (K0.cell 0) (K0.cell 1) K0.lt).mono ?_
    rintro e w' ⟨rfl, rfl⟩
    have HV : Below w.heap.size w (w.alloc (.cells #[.string s, .string t] 22)) := (Below.refl _ _).alloc (Nat.le_refl _) _
    go_wp2
    go_ret2
    exact ⟨rfl, HV⟩

set_option maxHeartbeats 1000000 in
set_option maxRecDepth 100000 in
theorem rExp_err (s t u : ByteArray) (v em : Bool) (hs : s.size ≤ 9223372036854775807) (ht : t.size ≤ 9223372036854775807) (hu : u.size ≤ 9223372036854775807) (hv : (validB s && validB t && validB u) = v) (hem : u.toList.isEmpty = em) (h : v = false ∨ em = true) (w : World) :
    Calls Tryz.prog 37 #[.string s, .string t, .string u] w (Made w (.tuple #[.string ⟨#[]⟩, .int .i64 (chkE v em)])) := by
  have HC := Lib.hid (fun (W : World) (g : Nat) (h1 : W.cell? ⟨g, 0, none⟩ = some (.string s)) (h2 : W.cell? ⟨g, 1, none⟩ = some (.string t)) (h3' : W.cell? ⟨g, 2, none⟩ = some (.string u)) (h3 : g < W.heap.size) => rcheck3 s t u v em g W hs ht hu h1 h2 h3' h3 hv hem)
  clear hv hem
  rcases chk_two h with ⟨_, hc⟩ | ⟨_, _, hc⟩
  all_goals
    rw [hc] at HC ⊢
    clear hc h
    go_enter Tryz.func37, Tryz.ntmps37
    go_wp2_with fail
    have K0 := Bk.new w #[.string s, .string t, .string u] 22
    refine (HC.out _ _ (K0.cell 0) (K0.cell 1) (K0.cell 2) K0.lt).mono ?_
    rintro e w' ⟨rfl, rfl⟩
    have HV : Below w.heap.size w (w.alloc (.cells #[.string s, .string t, .string u] 22)) := (Below.refl _ _).alloc (Nat.le_refl _) _
    go_wp2
    go_ret2
    exact ⟨rfl, HV⟩

set_option maxHeartbeats 1000000 in
set_option maxRecDepth 100000 in
theorem mInverse_err (s u : ByteArray) (v em : Bool) (hs : s.size ≤ 9223372036854775807) (hu : u.size ≤ 9223372036854775807) (hv : (validB s && validB u) = v) (hem : u.toList.isEmpty = em) (h : v = false ∨ em = true) (w : World) :
    Calls Tryz.prog 65 #[.string s, .string u] w (Made w (.tuple #[.string ⟨#[]⟩, .int .i64 (chkE v em)])) := by
  have hvi := and2 hv
  have HC := Lib.hid (fun (W : World) (g : Nat) (h1 : W.cell? ⟨g, 0, none⟩ = some (.string s)) (h3 : g < W.heap.size) => mcheck_any u 1 (fun _ => s) g W v em hu (by omega) (fun i _ => hs) (fun i hi => by
    obtain rfl : i = 0 := by omega
    exact h1) h3 ⟨fun h => ⟨fun i _ => (hvi.1 h).1, (hvi.1 h).2⟩, fun h => hvi.2 ⟨h.1 0 (by omega), h.2⟩⟩ (fun _ => hem))
  clear hv hvi hem
  rcases chk_two h with ⟨_, hc⟩ | ⟨_, _, hc⟩
  all_goals
    rw [hc] at HC ⊢
    clear hc h
    go_enter Tryz.func65, Tryz.ntmps65
    go_wp2_with fail
    have K0 := Bk.new w #[.string s] 22
    refine (HC.out _ _ (K0.cell 0) K0.lt).mono ?_
    rintro e w' ⟨rfl, rfl⟩
    have HV : Below w.heap.size w (w.alloc (.cells #[.string s] 22)) := (Below.refl _ _).alloc (Nat.le_refl _) _
    go_wp2
    go_ret2
    exact ⟨rfl, HV⟩

end Go.Proofs.YtmiafkbjmkaebaaGreat

namespace Go.Proofs.YtmiafkbjmkaebaaGreat
open Go.RowKit Num

theorem rcheck3_ok (a b m : Nat) (ha : a < Top) (hb : b < Top) (h0 : m ≠ 0) (hT : m < Top) (W : World) (g : Nat) (h1 : W.cell? ⟨g, 0, none⟩ = some (.string (bs a))) (h2 : W.cell? ⟨g, 1, none⟩ = some (.string (bs b))) (h3 : W.cell? ⟨g, 2, none⟩ = some (.string (bs m))) (hg : g < W.heap.size) :
    Calls Tryz.prog 62 #[.slice (some ⟨g, 0, none⟩) 3 3] W (Same W (.int .i64 0)) :=
  rcheck3 (bs a) (bs b) (bs m) true false g W (by have := bs_small ha; omega) (by have := bs_small hb; omega) (by have := bs_small hT; omega) h1 h2 h3 hg (by rw [bs_valid ha, bs_valid hb, bs_valid hT]; rfl) (by rw [bs_isEmpty]; exact beq_false_of_ne h0)
theorem rcheck2_ok (a m : Nat) (ha : a < Top) (h0 : m ≠ 0) (hT : m < Top) (W : World) (g : Nat) (h1 : W.cell? ⟨g, 0, none⟩ = some (.string (bs a))) (h2 : W.cell? ⟨g, 1, none⟩ = some (.string (bs m))) (hg : g < W.heap.size) :
    Calls Tryz.prog 62 #[.slice (some ⟨g, 0, none⟩) 2 2] W (Same W (.int .i64 0)) :=
  rcheck2 (bs a) (bs m) true false g W (by have := bs_small ha; omega) (by have := bs_small hT; omega) h1 h2 hg (by rw [bs_valid ha, bs_valid hT]; rfl) (by rw [bs_isEmpty]; exact beq_false_of_ne h0)

theorem top_two {m : Nat} (hm : m < 256 ^ 8) : m + m < Top ∧ m * m < Top := by
  have h1 : m * m ≤ 256 ^ 8 * 256 ^ 8 := Nat.mul_le_mul (Nat.le_of_lt hm) (Nat.le_of_lt hm)
  have h2 : 256 ^ 8 * 256 ^ 8 < Top := by unfold Top; decide
  have h3 : 256 ^ 8 + 256 ^ 8 < Top := by unfold Top; decide
  omega

set_option maxHeartbeats 1000000 in
set_option maxRecDepth 100000 in
theorem rtimes3 (a b m : Nat) (w : World) (ha : a < Top) (hb : b < Top) (h0 : m ≠ 0) (hm : m < 256 ^ 8) :
    Calls Tryz.prog 64 #[.string (bs a), .string (bs b), .string (bs m)] w (Made w (.string (bs (a * b % m)))) := by
  have hT : m < Top := lt_topk hm (by decide)
  have hp : 0 < m := Nat.pos_of_ne_zero h0
  have hm64 : m < 18446744073709551616 := hm
  have H1 := Lib.hid (fun W => rmod3 a m W ha hT h0)
  have H2 := Lib.hid (fun W => rmod3 b m W hb hT h0)
  have HS := Lib.hid (fun W => rsmall_yes m W hm64)
  have la := Nat.mod_lt a hp
  have lb := Nat.mod_lt b hp
  have HV := Below.refl w.heap.size w
  by_cases hs : m < 2147483648
  · obtain ⟨x, hx⟩ : ∃ x, x = a % m := ⟨_, rfl⟩
    obtain ⟨y, hy⟩ : ∃ y, y = b % m := ⟨_, rfl⟩
    have HSa := Lib.hid (fun W => rsmall_yes x W (by omega))
    have HSb := Lib.hid (fun W => rsmall_yes y W (by omega))
    rw [← hx] at H1
    rw [← hy] at H2
    obtain ⟨p, hpp⟩ : ∃ p, p = x * y := ⟨_, rfl⟩
    have pl : p ≤ 2147483648 * 2147483648 := by rw [hpp]; exact Nat.mul_le_mul (by omega) (by omega)
    have ep : (x : Int) * (y : Int) = (p : Int) := by rw [hpp, Int.natCast_mul]
    obtain ⟨r, hr⟩ : ∃ r, r = p % m := ⟨_, rfl⟩
    have er : (p : Int) % (m : Int) = (r : Int) := by rw [hr, Int.natCast_emod]
    have HO := Lib.hid (fun W => rof_any r W (by have := Nat.mod_lt p hp; omega))
    rw [show a * b % m = r from by rw [hr, hpp, hx, hy, ← Nat.mul_mod]]
    have wpp : IntKind.u64.wrap (p : Int) = (p : Int) := by rw [IntKind.wrap_u64]; omega
    have hds : decide ((m : Int) < 2147483648) = true := by simp; omega
    have hm0 : (m : Int) ≠ 0 := by omega
    clear hr hpp hx hy la lb ha hb hT hm hm64 hs pl hp h0
    go_enter Tryz.func64, Tryz.ntmps64
    go_wp2_with fail
    refine (HS.out _).mono ?_
    rintro e w6 ⟨rfl, rfl⟩
    go_wp2_with fail
    refine (H1.out _).mono ?_
    rintro e w7 ⟨rfl, hb⟩
    replace HV := HV.trans (hb.mono HV.size)
    clear hb
    go_wp2_with fail
    refine (HSa.out _).mono ?_
    rintro e w8 ⟨rfl, rfl⟩
    go_wp2_with fail
    refine (H2.out _).mono ?_
    rintro e w9 ⟨rfl, hb⟩
    replace HV := HV.trans (hb.mono HV.size)
    clear hb
    go_wp2_with fail
    refine (HSb.out _).mono ?_
    rintro e w10 ⟨rfl, rfl⟩
    go_wp2_with fail
    refine (HO.out _).mono ?_
    rintro e w11 ⟨rfl, hb⟩
    replace HV := HV.trans (hb.mono HV.size)
    clear hb
    go_wp2
    go_ret
    exact ⟨rfl, HV⟩
  · have ls : a % m * (b % m) < Top := Nat.lt_of_le_of_lt (Nat.mul_le_mul (Nat.le_of_lt la) (Nat.le_of_lt lb)) (top_two hm).2
    have H3 := Lib.hid (fun W => rmul_ok (a := a % m) (b := b % m) (by omega) (by omega) ls W)
    have H4 := Lib.hid (fun W => rmod3 (a % m * (b % m)) m W ls hT h0)
    rw [← Nat.mul_mod] at H4
    generalize a % m * (b % m) = d at *
    generalize a % m = x at *
    generalize b % m = y at *
    have hds : decide ((m : Int) < 2147483648) = false := by simp; omega
    clear ha hb hT hm la lb ls hm64 hs hp h0
    go_enter Tryz.func64, Tryz.ntmps64
    go_wp2_with fail
    refine (HS.out _).mono ?_
    rintro e w12 ⟨rfl, rfl⟩
    go_wp2_with fail
    refine (H1.out _).mono ?_
    rintro e w13 ⟨rfl, hb⟩
    replace HV := HV.trans (hb.mono HV.size)
    clear hb
    go_wp2_with fail
    refine (H2.out _).mono ?_
    rintro e w14 ⟨rfl, hb⟩
    replace HV := HV.trans (hb.mono HV.size)
    clear hb
    go_wp2_with fail
    refine (H3.out _).mono ?_
    rintro e w15 ⟨rfl, hb⟩
    replace HV := HV.trans (hb.mono HV.size)
    clear hb
    go_wp2_with fail
    refine (H4.out _).mono ?_
    rintro e w16 ⟨rfl, hb⟩
    replace HV := HV.trans (hb.mono HV.size)
    clear hb
    go_wp2
    go_ret
    exact ⟨rfl, HV⟩

set_option maxHeartbeats 1000000 in
set_option maxRecDepth 100000 in
theorem rMul_ok (a b m : Nat) (w : World) (ha : a < Top) (hb : b < Top) (h0 : m ≠ 0) (hm : m < 256 ^ 8) :
    Calls Tryz.prog 40 #[.string (bs a), .string (bs b), .string (bs m)] w (Made w (.tuple #[.string (bs (a * b % m)), .int .i64 0])) := by
  have hT : m < Top := lt_topk hm (by decide)
  have HC := Lib.hid (rcheck3_ok a b m ha hb h0 hT)
  have H1 := Lib.hid (fun W => rtimes3 a b m W ha hb h0 hm)
  clear ha hb h0 hm hT
  go_enter Tryz.func40, Tryz.ntmps40
  go_wp2_with fail
  have K0 := Bk.new w #[.string (bs a), .string (bs b), .string (bs m)] 22
  refine (HC.out _ _ (K0.cell 0) (K0.cell 1) (K0.cell 2) K0.lt).mono ?_
  rintro e w' ⟨rfl, rfl⟩
  have HV : Below w.heap.size w (w.alloc (.cells #[.string (bs a), .string (bs b), .string (bs m)] 22)) := (Below.refl _ _).alloc (Nat.le_refl _) _
  clear K0
  go_wp2_with fail
  refine (H1.out _).mono ?_
  rintro e w17 ⟨rfl, hb⟩
  replace HV := HV.trans (hb.mono HV.size)
  clear hb
  go_wp2
  go_ret2
  exact ⟨rfl, HV⟩

theorem rbits3 {a : Nat} (ha : a < Top) (w : World) : Calls Tryz.prog 92 #[.string (bs a)] w (Same w (.int .i64 (nb a : Nat))) := by
  have hs := bs_small ha
  have HA := Lib.hid ha
  clear ha
  go_enter Tryz.func92, Tryz.ntmps92
  go_wp2_with (first | (go_at_call 35; refine (rvalid_yes HA.out _).mono ?_; rintro e w' ⟨rfl, rfl⟩) | (go_at_call 79; refine (rbits_any a _ (by omega)).mono ?_; rintro e w' ⟨rfl, rfl⟩))
  go_ret
  exact ⟨rfl, rfl⟩

theorem nb_1024 {a : Nat} (ha : a < Top) : nb a ≤ 1024 := by
  by_cases h : a = 0
  · rw [h, nb_zero]; omega
  · obtain ⟨s, hs⟩ := root_ex a
    exact (root_start hs h ha).2.2
theorem nb_over (a : Nat) : a / 2 ^ nb a = 0 := by
  by_cases h : a = 0
  · rw [h, Nat.zero_div]
  · exact Nat.div_eq_of_lt (nb_bounds h).2.1

set_option maxHeartbeats 2000000 in
set_option maxRecDepth 100000 in
theorem rraise3 (a x m : Nat) (w : World) (ha : a < Top) (hx : x < Top) (h0 : m ≠ 0) (hm : m < 256 ^ 8) :
    Calls Tryz.prog 63 #[.string (bs a), .string (bs x), .string (bs m)] w (Made w (.string (bs (a ^ x % m)))) := by
  have hT : m < Top := lt_topk hm (by decide)
  have hp : 0 < m := Nat.pos_of_ne_zero h0
  have HO : Hid (∀ W, Calls Tryz.prog 78 #[.int .u64 1] W (Made W (.string (bs 1)))) := Lib.hid (fun W => rof_any 1 W (by decide))
  have HM := Lib.hid (fun W => rmod3 1 m W (by unfold Top; decide) hT h0)
  have HB := Lib.hid (fun W => rbits3 hx W)
  have HT := Lib.hid (fun (y z : Nat) (hy : y < Top) (hz : z < Top) (W : World) => rtimes3 y z m W hy hz h0 hm)
  have HBt := Lib.hid (fun (i : Nat) (W : World) => bitR_all hx i W)
  have HA := Lib.hid (And.intro ha (And.intro hT hp))
  have hnb := nb_1024 hx
  have HV := Below.refl w.heap.size w
  have HZ := Lib.hid (nb_over x)
  clear ha hx h0 hm hT hp
  obtain ⟨V, hV⟩ : ∃ V, V = a ^ x % m := ⟨_, rfl⟩
  rw [← hV]
  have HVV := Lib.hid hV
  clear hV
  go_enter Tryz.func63, Tryz.ntmps63
  go_wp2_with fail
  refine (HO.out _).mono ?_
  rintro e w18 ⟨rfl, hb⟩
  replace HV := HV.trans (hb.mono HV.size)
  clear hb
  go_wp2_with fail
  refine (HM.out _).mono ?_
  rintro e w19 ⟨rfl, hb⟩
  replace HV := HV.trans (hb.mono HV.size)
  clear hb
  go_wp2_with fail
  refine (HB.out _).mono ?_
  rintro e w20 ⟨rfl, rfl⟩
  go_wp2
  go_loopw [7, 8] (fun x7 x8 wr => ∃ (o : Nat) (z : Int), x7 = .string (bs o) ∧ x8 = .int .i64 z ∧ Hid (∃ j : Nat, j ≤ nb x ∧ z = (j : Int) - 1 ∧ o = a ^ (x / 2 ^ j) % m) ∧ Below w.heap.size w wr) (fun _ x8 _ => (intOf x8 + 1).toNat)
  case atStart => exact ⟨1 % m, (nb x : Int) - 1, rfl, by go_num, Lib.hid ⟨nb x, Nat.le_refl _, rfl, by rw [HZ.out, Nat.pow_zero]⟩, HV⟩
  case round =>
    obtain ⟨o, z, rfl, rfl, HR, HV⟩ := hrel
    obtain ⟨j, hj, hz, ho⟩ := HR.out
    clear HR
    cases j with
    | zero =>
      obtain rfl : z = -1 := by omega
      obtain rfl : o = V := by rw [ho, HVV.out, Nat.pow_zero, Nat.div_one]
      clear hj hz ho
      go_wp2
      go_ret
      exact ⟨rfl, HV⟩
    | succ k =>
      obtain rfl : z = (k : Int) := by omega
      have k1 : k ≤ 1023 := by omega
      have oT : o < Top := by rw [ho]; exact Nat.lt_trans (Nat.mod_lt _ HA.out.2.2) HA.out.2.1
      have HT1 := Lib.hid (HT.out o o oT oT)
      obtain ⟨o2, ho2⟩ : ∃ y, y = o * o % m := ⟨_, rfl⟩
      rw [← ho2] at HT1
      have o2T : o2 < Top := by rw [ho2]; exact Nat.lt_trans (Nat.mod_lt _ HA.out.2.2) HA.out.2.1
      have HT2 := Lib.hid (HT.out o2 a o2T HA.out.1)
      have HBk := Lib.hid (HBt.out k)
      have e2 : o2 = a ^ (x / 2 ^ (k + 1) * 2) % m := by
        rw [ho2, ho, ← Nat.mul_mod, ← Nat.pow_add, Nat.mul_two]
      have hn := half_next x k
      rcases hb : bitB x k with _ | _
      · rw [hb] at HBk hn
        have HE := Lib.hid (show k ≤ nb x ∧ o2 = a ^ (x / 2 ^ k) % m from ⟨by omega, by rw [hn, e2]; simp⟩)
        clear hj hz ho e2 hn hb oT o2T ho2
        go_wp2_with (first
          | (go_at_call 64; refine (HT1.out _).mono ?_; rintro e u1 ⟨rfl, hb⟩; replace HV := HV.trans (hb.mono HV.size); clear hb)
          | (go_at_call 93; refine (HBk.out _).mono ?_; rintro e u2 ⟨rfl, rfl⟩))
        go_roundw
        case rel => exact ⟨o2, (k : Int) - 1, rfl, by go_num, Lib.hid ⟨k, HE.out.1, rfl, HE.out.2⟩, HV⟩
        case measure => simp [intOf]
      · rw [hb] at HBk hn
        have HE := Lib.hid (show k ≤ nb x ∧ o2 * a % m = a ^ (x / 2 ^ k) % m from ⟨by omega, by rw [hn, e2, Nat.mod_mul_mod, if_pos rfl, ← Nat.pow_succ]⟩)
        obtain ⟨o3, ho3⟩ : ∃ y, y = o2 * a % m := ⟨_, rfl⟩
        rw [← ho3] at HT2 HE
        clear hj hz ho e2 hn hb oT o2T ho2 ho3
        have tok0 : True := trivial
        go_wp2_with (first
          | (go_at_call 64; clear tok0; refine (HT1.out _).mono ?_; rintro e u1 ⟨rfl, hb⟩; replace HV := HV.trans (hb.mono HV.size); clear hb)
          | (go_at_call 64; refine (HT2.out _).mono ?_; rintro e u1 ⟨rfl, hb⟩; replace HV := HV.trans (hb.mono HV.size); clear hb)
          | (go_at_call 93; refine (HBk.out _).mono ?_; rintro e u2 ⟨rfl, rfl⟩))
        go_roundw
        case rel => exact ⟨o3, (k : Int) - 1, rfl, by go_num, Lib.hid ⟨k, HE.out.1, rfl, HE.out.2⟩, HV⟩
        case measure => simp [intOf]

set_option maxHeartbeats 1000000 in
set_option maxRecDepth 100000 in
theorem rExp_ok (a x m : Nat) (w : World) (ha : a < Top) (hb : x < Top) (h0 : m ≠ 0) (hm : m < 256 ^ 8) :
    Calls Tryz.prog 37 #[.string (bs a), .string (bs x), .string (bs m)] w (Made w (.tuple #[.string (bs (a ^ x % m)), .int .i64 0])) := by
  have hT : m < Top := lt_topk hm (by decide)
  have HC := Lib.hid (rcheck3_ok a x m ha hb h0 hT)
  have H1 := Lib.hid (fun W => rraise3 a x m W ha hb h0 hm)
  clear ha hb h0 hm hT
  go_enter Tryz.func37, Tryz.ntmps37
  go_wp2_with fail
  have K0 := Bk.new w #[.string (bs a), .string (bs x), .string (bs m)] 22
  refine (HC.out _ _ (K0.cell 0) (K0.cell 1) (K0.cell 2) K0.lt).mono ?_
  rintro e w' ⟨rfl, rfl⟩
  have HV : Below w.heap.size w (w.alloc (.cells #[.string (bs a), .string (bs x), .string (bs m)] 22)) := (Below.refl _ _).alloc (Nat.le_refl _) _
  clear K0
  go_wp2_with fail
  refine (H1.out _).mono ?_
  rintro e w21 ⟨rfl, hb⟩
  replace HV := HV.trans (hb.mono HV.size)
  clear hb
  go_wp2
  go_ret2
  exact ⟨rfl, HV⟩

theorem gcd_rem (a m : Nat) : Nat.gcd (a % m) m = Nat.gcd a m := by rw [Nat.gcd_comm a m, Nat.gcd_rec m a]
end Go.Proofs.YtmiafkbjmkaebaaGreat

namespace Go.Proofs.YtmiafkbjmkaebaaGreat
open Go.RowKit Num

set_option maxHeartbeats 1000000 in
set_option maxRecDepth 100000 in
theorem mPower_bad1 (s E u : ByteArray) (q va vi : Bool) (w : World) (hs : s.size ≤ 9223372036854775807) (hE : E.size ≤ 9223372036854775807) (hva : validB s = va) (hvi : vI q E = vi) (h : (va && vi) = false) :
    Calls Tryz.prog 42 #[.string s, .agg #[.bool q, .string E], .string u] w (Made w (.tuple #[.string ⟨#[]⟩, .int .i64 3])) := by
  have HA := Lib.hid (fun W => valid_any s W hs)
  rw [hva] at HA
  have HI : Hid (∀ W, Calls Tryz.prog 41 #[.agg #[.bool q, .string E]] W (Made W (.bool vi))) := Lib.hid (fun W => by
    have := ivalid_core q (validB E) (E.toList.isEmpty) E W hE rfl rfl
    unfold vI at hvi
    rwa [hvi] at this)
  have HV := (Below.refl w.heap.size w).alloc (Nat.le_refl _) (.cells #[.bool q, .string E] 38)
  have h5 : va = false ∨ (va = true ∧ vi = false) := by
    revert h
    cases va <;> cases vi <;> simp
  clear hva hvi h hs hE
  rcases h5 with rfl | ⟨rfl, rfl⟩
  all_goals
    go_enter Tryz.func42, Tryz.ntmps42
    go_wp2_with (first
      | (go_at_call 31; refine (HA.out _).mono ?_; rintro e w' ⟨rfl, rfl⟩)
      | (go_at_call 41; refine (HI.out _).mono ?_; rintro e u1 ⟨rfl, hb⟩; replace HV := HV.trans (hb.mono HV.size); clear hb))
    go_ret2
    exact ⟨rfl, HV⟩

set_option maxHeartbeats 1000000 in
set_option maxRecDepth 100000 in
theorem mPower_bad2 (s E u : ByteArray) (q : Bool) (em vm : Bool) (w : World) (hs : s.size ≤ 9223372036854775807) (hE : E.size ≤ 9223372036854775807) (hu : u.size ≤ 9223372036854775807) (hva : validB s = true) (hvi : vI q E = true) (hvm : validB u = vm) (hem : u.toList.isEmpty = em) (h : vm = false ∨ em = true) :
    Calls Tryz.prog 42 #[.string s, .agg #[.bool q, .string E], .string u] w (Made w (.tuple #[.string ⟨#[]⟩, .int .i64 (chkE vm em)])) := by
  have HA := Lib.hid (fun W => valid_any s W hs)
  rw [hva] at HA
  have HI : Hid (∀ W, Calls Tryz.prog 41 #[.agg #[.bool q, .string E]] W (Made W (.bool true))) := Lib.hid (fun W => by
    have := ivalid_core q (validB E) (E.toList.isEmpty) E W hE rfl rfl
    have h2 := hvi
    unfold vI at h2
    rwa [h2] at this)
  have hve : validB E = true := by unfold vI at hvi; revert hvi; cases validB E <;> simp
  have HX := Lib.hid (fun W => mExp_err s E u vm em hs hE hu (by rw [hva, hve, hvm]; rfl) hem h W)
  have HN := Lib.hid (fun W => mInverse_err s u vm em hs hu (by rw [hva, hvm]; rfl) hem h W)
  have HV := (Below.refl w.heap.size w).alloc (Nat.le_refl _) (.cells #[.bool q, .string E] 38)
  have K := Bk.new w #[.bool q, .string E] 38
  obtain ⟨c, hc⟩ : ∃ c, c = chkE vm em := ⟨_, rfl⟩
  have hc0 : c = 3 ∨ c = 11 := by rcases chk_two h with ⟨_, k⟩ | ⟨_, _, k⟩ <;> omega
  rw [← hc] at HX HN ⊢
  clear hva hvi hvm hem h hs hE hu hve hc
  rcases hc0 with rfl | rfl <;> cases q
  all_goals
    go_enter Tryz.func42, Tryz.ntmps42
    go_wp2_with fail
    refine (HA.out _).mono ?_
    rintro e w' ⟨rfl, rfl⟩
    go_wp2_with fail
    refine (HI.out _).mono ?_
    rintro e u1 ⟨rfl, hb⟩
    replace K := K.below hb
    replace HV := HV.trans (hb.mono HV.size)
    clear hb
    have c0 : u1.cell? ⟨w.heap.size, 0, none⟩ = some (.bool _) := K.cell 0
    have c1 : u1.cell? ⟨w.heap.size, 1, none⟩ = some (.string E) := K.cell 1
    have l0 := K.lt
    go_wp2_with (first
      | (go_at_call 33; refine (HX.out _).mono ?_; rintro e u2 ⟨rfl, hb⟩; replace HV := HV.trans (hb.mono HV.size); clear hb)
      | (go_at_call 65; refine (HN.out _).mono ?_; rintro e u2 ⟨rfl, hb⟩; replace HV := HV.trans (hb.mono HV.size); clear hb))
    go_ret2
    exact ⟨rfl, HV⟩

end Go.Proofs.YtmiafkbjmkaebaaGreat
