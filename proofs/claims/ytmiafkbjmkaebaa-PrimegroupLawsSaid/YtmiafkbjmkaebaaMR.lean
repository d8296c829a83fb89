/-
  modular.check and dominoref03.check for all arguments. dominoref03.Jacobi for canonical arguments and an odd modulus. modular.Add, Sub, Mul, Exp, Inverse, Power and the reference's, where an argument is not canonical or the modulus is 0. dominoref03.Add, Sub, times, Mul, raise, Exp, Inverse, Power for canonical arguments and a modulus of at most 8 bytes. modular.Power and the reference's, where an argument is not canonical or the modulus is 0.
-/
import Derived.Test.YtmiafkbjmkaebaaModV
import Derived.Test.YtmiafkbjmkaebaaMY
import Derived.Test.YtmiafkbjmkaebaaIntA
import Derived.Test.YtmiafkbjmkaebaaIntXY
import Derived.Test.YtmiafkbjmkaebaaIntM
namespace Go.Proofs.Ytmiafkbjmkaebaa
open Go.RowKit Num

/-- What the checks of arguments answer. -/
def chkE (v em : Bool) : Int := if v = true then (if em = true then 11 else 0) else 3

set_option maxHeartbeats 1000000 in
set_option maxRecDepth 100000 in
theorem mcheck_any (M : ByteArray) (k : Nat) (f : Nat → ByteArray) (g : Nat) (w : World) (v em : Bool) (hM : M.size ≤ 9223372036854775807) (hk : k ≤ 8) (hs : ∀ i, i < k → (f i).size ≤ 9223372036854775807) (hc : ∀ i, i < k → w.cell? ⟨g, i, none⟩ = some (.string (f i))) (hg : g < w.heap.size)
    (hv : v = true ↔ (∀ i, i < k → validB (f i) = true) ∧ validB M = true) (hem : v = true → M.toList.isEmpty = em) :
    Calls Try.prog 34 #[.string M, .slice (some ⟨g, 0, none⟩) k k] w (Same w (.int .i64 (chkE v em))) := by
  have HM := Lib.hid (fun W => valid_any M W hM)
  have HV := Lib.hid (fun i (h : i < k) W => valid_any (f i) W (hs i h))
  have HC := Lib.hid hc
  have HI := Lib.hid hv
  have HE := Lib.hid hem
  obtain ⟨c, hcc⟩ : ∃ c, c = chkE v em := ⟨_, rfl⟩
  rw [← hcc]
  have HCC := Lib.hid hcc
  clear hs hc hv hem hcc hM
  go_enter Try.func34, Try.ntmps34
  go_wp2
  go_loopw [9] (fun x wr => ∃ i : Nat, i ≤ k ∧ x = .int .i64 i ∧ Hid (∀ j, j < i → validB (f j) = true) ∧ wr = w) (fun x _ => k - (intOf x).toNat)
  case atStart => exact ⟨0, Nat.zero_le _, rfl, Lib.hid (fun j hj => absurd hj (Nat.not_lt_zero j)), rfl⟩
  case round =>
    obtain ⟨i, hi, rfl, HJ, rfl⟩ := hrel
    by_cases hlt : i < k
    · have hci := HC.out i hlt
      have HVi := Lib.hid (HV.out i hlt)
      rcases hvi : validB (f i) with _ | _
      · rw [hvi] at HVi
        obtain rfl : c = 3 := by
          rw [HCC.out]
          have : v = false := by
            rcases v with _ | _
            · rfl
            · have := (HI.out.1 rfl).1 i hlt
              rw [hvi] at this
              cases this
          rw [this]
          rfl
        go_wp2_with (go_at_call 18; refine (HVi.out _).mono ?_; rintro e w' ⟨rfl, rfl⟩)
        go_ret
        exact ⟨rfl, rfl⟩
      · rw [hvi] at HVi
        have HJ2 := Lib.hid (fun (j : Nat) (hj : j < i + 1) => (show validB (f j) = true from by
          by_cases hji : j = i
          · subst hji; exact hvi
          · exact HJ.out j (by omega)))
        clear hvi
        go_wp2_with (go_at_call 18; refine (HVi.out _).mono ?_; rintro e w' ⟨rfl, rfl⟩)
        go_roundw
        case rel => exact ⟨i + 1, by omega, by go_num, HJ2, trivial⟩
        case measure => simp [intOf]; omega
    · obtain rfl : i = k := by omega
      rcases hvm : validB M with _ | _
      · rw [hvm] at HM
        obtain rfl : c = 3 := by
          rw [HCC.out]
          have : v = false := by
            rcases v with _ | _
            · rfl
            · have := (HI.out.1 rfl).2
              rw [hvm] at this
              cases this
          rw [this]
          rfl
        go_wp2_with (go_at_call 18; refine (HM.out _).mono ?_; rintro e w' ⟨rfl, rfl⟩)
        go_ret
        exact ⟨rfl, rfl⟩
      · have hvt : v = true := HI.out.2 ⟨HJ.out, hvm⟩
        have hz := HE.out hvt
        have hcc := HCC.out
        rw [hvm] at HM
        rw [hvt] at hcc
        clear hvt HI HE HCC
        rcases em with _ | _
        all_goals
          simp [chkE] at hcc
          subst hcc
          go_wp2_with (go_at_call 18; refine (HM.out _).mono ?_; rintro e w' ⟨rfl, rfl⟩)
          go_ret
          exact ⟨rfl, rfl⟩
end Go.Proofs.Ytmiafkbjmkaebaa

namespace Go.Proofs.Ytmiafkbjmkaebaa
open Go.RowKit Num

theorem tz_even {x : Nat} (h0 : x ≠ 0) (h : x % 2 = 0) : tzN x = tzN (x / 2) + 1 ∧ x / 2 ^ tzN x = x / 2 / 2 ^ tzN (x / 2) := by
  have e : tzN x = tzN (x / 2) + 1 := by
    conv => lhs; unfold tzN
    rw [dif_pos ⟨h0, h⟩]
  refine ⟨e, ?_⟩
  rw [e, Nat.pow_succ, Nat.mul_comm, ← Nat.div_div_eq_div_mul]
theorem tz_odd {x : Nat} (h : x % 2 = 1) : tzN x = 0 ∧ x / 2 ^ tzN x = x := by
  have e : tzN x = 0 := by
    unfold tzN
    rw [dif_neg (by omega)]
  exact ⟨e, by rw [e]; simp⟩
theorem fl_bits {n : Nat} (h : n % 2 = 1) : (bitB n 1 ≠ bitB n 2) ↔ (n % 8 = 3 ∨ n % 8 = 5) := by
  unfold bitB
  rw [show 2 ^ 1 = 2 from rfl, show 2 ^ 2 = 4 from rfl]
  have h8 : n % 8 = 1 ∨ n % 8 = 3 ∨ n % 8 = 5 ∨ n % 8 = 7 := by omega
  rcases h8 with h8 | h8 | h8 | h8
  · rw [show n / 2 % 2 = 0 from by omega, show n / 4 % 2 = 0 from by omega]; simp [h8]
  · rw [show n / 2 % 2 = 1 from by omega, show n / 4 % 2 = 0 from by omega]; simp [h8]
  · rw [show n / 2 % 2 = 0 from by omega, show n / 4 % 2 = 1 from by omega]; simp [h8]
  · rw [show n / 2 % 2 = 1 from by omega, show n / 4 % 2 = 1 from by omega]; simp [h8]

theorem flip_next {t u : Nat} {F : Prop} [Decidable F] {s s1 : Int} (hu : u = t + 1) (h : (if u % 2 = 1 ∧ F then -s else s) = s1) : (if t % 2 = 1 ∧ F then -(if F then -s else s) else (if F then -s else s)) = s1 := by
  subst hu
  by_cases hF : F
  · rcases (show t % 2 = 0 ∨ t % 2 = 1 by omega) with ht | ht
    · have : (t + 1) % 2 = 1 := by omega
      simpa [hF, ht, this] using h
    · have : (t + 1) % 2 = 0 := by omega
      simpa [hF, ht, this] using h
  · simpa [hF] using h

end Go.Proofs.Ytmiafkbjmkaebaa

namespace Go.Proofs.Ytmiafkbjmkaebaa
open Go.RowKit Num

theorem chk_two {v em : Bool} (h : v = false ∨ em = true) : (v = false ∧ chkE v em = 3) ∨ (v = true ∧ em = true ∧ chkE v em = 11) := by
  unfold chkE
  cases v <;> cases em <;> simp_all
theorem and3 {x y z v : Bool} (h : (x && y && z) = v) : v = true ↔ x = true ∧ y = true ∧ z = true := by rw [← h]; simp [and_assoc]
theorem and2 {x y v : Bool} (h : (x && y) = v) : v = true ↔ x = true ∧ y = true := by rw [← h]; simp

set_option maxHeartbeats 1000000 in
set_option maxRecDepth 100000 in
theorem mMul_err (s t u : ByteArray) (v em : Bool) (hs : s.size ≤ 9223372036854775807) (ht : t.size ≤ 9223372036854775807) (hu : u.size ≤ 9223372036854775807) (hv : (validB s && validB t && validB u) = v) (hem : u.toList.isEmpty = em) (h : v = false ∨ em = true) (w : World) :
    Calls Try.prog 25 #[.string s, .string t, .string u] w (Made w (.tuple #[.string ⟨#[]⟩, .int .i64 (chkE v em)])) := by
  have hvi := and3 hv
  have HC := Lib.hid (fun (W : World) (g : Nat) (h1 : W.cell? ⟨g, 0, none⟩ = some (.string s)) (h2 : W.cell? ⟨g, 1, none⟩ = some (.string t)) (h3 : g < W.heap.size) => mcheck_any u 2 (fun i => if i = 0 then s else t) g W v em hu (by omega) (fun i _ => by split <;> assumption) (fun i hi => by
    rcases (show i = 0 ∨ i = 1 by omega) with rfl | rfl
    · exact h1
    · exact h2) h3 ⟨fun h => ⟨fun i _ => by split; exact (hvi.1 h).1; exact (hvi.1 h).2.1, (hvi.1 h).2.2⟩, fun h => hvi.2 ⟨h.1 0 (by omega), h.1 1 (by omega), h.2⟩⟩ (fun _ => hem))
  clear hv hvi hem
  rcases chk_two h with ⟨_, hc⟩ | ⟨_, _, hc⟩
  all_goals
    rw [hc] at HC ⊢
    clear hc h
    go_enter Try.func25, Try.ntmps25
    go_wp2_with fail
    have K0 := Bk.new w #[.string s, .string t] 22
    refine (HC.out _ _ (K0.cell 0) (K0.cell 1) K0.lt).mono ?_
    rintro e w' ⟨rfl, rfl⟩
    have HV : Below w.heap.size w (w.alloc (.cells #[.string s, .string t] 22)) := (Below.refl _ _).alloc (Nat.le_refl _) _
    go_wp2
    go_ret2
    exact ⟨rfl, HV⟩

set_option maxHeartbeats 1000000 in
set_option maxRecDepth 100000 in
theorem mExp_err (s t u : ByteArray) (v em : Bool) (hs : s.size ≤ 9223372036854775807) (ht : t.size ≤ 9223372036854775807) (hu : u.size ≤ 9223372036854775807) (hv : (validB s && validB t && validB u) = v) (hem : u.toList.isEmpty = em) (h : v = false ∨ em = true) (w : World) :
    Calls Try.prog 21 #[.string s, .string t, .string u] w (Made w (.tuple #[.string ⟨#[]⟩, .int .i64 (chkE v em)])) := by
  have hvi := and3 hv
  have HC := Lib.hid (fun (W : World) (g : Nat) (h1 : W.cell? ⟨g, 0, none⟩ = some (.string s)) (h2 : W.cell? ⟨g, 1, none⟩ = some (.string t)) (h3 : g < W.heap.size) => mcheck_any u 2 (fun i => if i = 0 then s else t) g W v em hu (by omega) (fun i _ => by split <;> assumption) (fun i hi => by
    rcases (show i = 0 ∨ i = 1 by omega) with rfl | rfl
    · exact h1
    · exact h2) h3 ⟨fun h => ⟨fun i _ => by split; exact (hvi.1 h).1; exact (hvi.1 h).2.1, (hvi.1 h).2.2⟩, fun h => hvi.2 ⟨h.1 0 (by omega), h.1 1 (by omega), h.2⟩⟩ (fun _ => hem))
  clear hv hvi hem
  rcases chk_two h with ⟨_, hc⟩ | ⟨_, _, hc⟩
  all_goals
    rw [hc] at HC ⊢
    clear hc h
    go_enter Try.func21, Try.ntmps21
    go_wp2_with fail
    have K0 := Bk.new w #[.string s, .string t] 22
    refine (HC.out _ _ (K0.cell 0) (K0.cell 1) K0.lt).mono ?_
    rintro e w' ⟨rfl, rfl⟩
    have HV : Below w.heap.size w (w.alloc (.cells #[.string s, .string t] 22)) := (Below.refl _ _).alloc (Nat.le_refl _) _
    go_wp2
    go_ret2
    exact ⟨rfl, HV⟩

set_option maxHeartbeats 1000000 in
set_option maxRecDepth 100000 in
theorem mInverse_err (s u : ByteArray) (v em : Bool) (hs : s.size ≤ 9223372036854775807) (hu : u.size ≤ 9223372036854775807) (hv : (validB s && validB u) = v) (hem : u.toList.isEmpty = em) (h : v = false ∨ em = true) (w : World) :
    Calls Try.prog 40 #[.string s, .string u] w (Made w (.tuple #[.string ⟨#[]⟩, .int .i64 (chkE v em)])) := by
  have hvi := and2 hv
  have HC := Lib.hid (fun (W : World) (g : Nat) (h1 : W.cell? ⟨g, 0, none⟩ = some (.string s)) (h3 : g < W.heap.size) => mcheck_any u 1 (fun _ => s) g W v em hu (by omega) (fun i _ => hs) (fun i hi => by
    obtain rfl : i = 0 := by omega
    exact h1) h3 ⟨fun h => ⟨fun i _ => (hvi.1 h).1, (hvi.1 h).2⟩, fun h => hvi.2 ⟨h.1 0 (by omega), h.2⟩⟩ (fun _ => hem))
  clear hv hvi hem
  rcases chk_two h with ⟨_, hc⟩ | ⟨_, _, hc⟩
  all_goals
    rw [hc] at HC ⊢
    clear hc h
    go_enter Try.func40, Try.ntmps40
    go_wp2_with fail
    have K0 := Bk.new w #[.string s] 22
    refine (HC.out _ _ (K0.cell 0) K0.lt).mono ?_
    rintro e w' ⟨rfl, rfl⟩
    have HV : Below w.heap.size w (w.alloc (.cells #[.string s] 22)) := (Below.refl _ _).alloc (Nat.le_refl _) _
    go_wp2
    go_ret2
    exact ⟨rfl, HV⟩

end Go.Proofs.Ytmiafkbjmkaebaa

namespace Go.Proofs.Ytmiafkbjmkaebaa
open Go.RowKit Num

theorem top_two {m : Nat} (hm : m < 256 ^ 8) : m + m < Top ∧ m * m < Top := by
  have h1 : m * m ≤ 256 ^ 8 * 256 ^ 8 := Nat.mul_le_mul (Nat.le_of_lt hm) (Nat.le_of_lt hm)
  have h2 : 256 ^ 8 * 256 ^ 8 < Top := by unfold Top; decide
  have h3 : 256 ^ 8 + 256 ^ 8 < Top := by unfold Top; decide
  omega

theorem nb_1024 {a : Nat} (ha : a < Top) : nb a ≤ 1024 := by
  by_cases h : a = 0
  · rw [h, nb_zero]; omega
  · obtain ⟨s, hs⟩ := root_ex a
    exact (root_start hs h ha).2.2
theorem nb_over (a : Nat) : a / 2 ^ nb a = 0 := by
  by_cases h : a = 0
  · rw [h, Nat.zero_div]
  · exact Nat.div_eq_of_lt (nb_bounds h).2.1

theorem gcd_rem (a m : Nat) : Nat.gcd (a % m) m = Nat.gcd a m := by rw [Nat.gcd_comm a m, Nat.gcd_rec m a]
end Go.Proofs.Ytmiafkbjmkaebaa

namespace Go.Proofs.Ytmiafkbjmkaebaa
open Go.RowKit Num

set_option maxHeartbeats 1000000 in
set_option maxRecDepth 100000 in
theorem mPower_bad1 (s E u : ByteArray) (q va vi : Bool) (w : World) (hs : s.size ≤ 9223372036854775807) (hE : E.size ≤ 9223372036854775807) (hva : validB s = va) (hvi : vI q E = vi) (h : (va && vi) = false) :
    Calls Try.prog 26 #[.string s, .agg #[.bool q, .string E], .string u] w (Made w (.tuple #[.string ⟨#[]⟩, .int .i64 3])) := by
  have HA := Lib.hid (fun W => valid_any s W hs)
  rw [hva] at HA
  have HI : Hid (∀ W, Calls Try.prog 6 #[.agg #[.bool q, .string E]] W (Made W (.bool vi))) := Lib.hid (fun W => by
    have := ivalid_core q (validB E) (E.toList.isEmpty) E W hE rfl rfl
    unfold vI at hvi
    rwa [hvi] at this)
  have HV := (Below.refl w.heap.size w).alloc (Nat.le_refl _) (.cells #[.bool q, .string E] 26)
  have h5 : va = false ∨ (va = true ∧ vi = false) := by
    revert h
    cases va <;> cases vi <;> simp
  clear hva hvi h hs hE
  rcases h5 with rfl | ⟨rfl, rfl⟩
  all_goals
    go_enter Try.func26, Try.ntmps26
    go_wp2_with (first
      | (go_at_call 18; refine (HA.out _).mono ?_; rintro e w' ⟨rfl, rfl⟩)
      | (go_at_call 6; refine (HI.out _).mono ?_; rintro e u1 ⟨rfl, hb⟩; replace HV := HV.trans (hb.mono HV.size); clear hb))
    go_ret2
    exact ⟨rfl, HV⟩

set_option maxHeartbeats 1000000 in
set_option maxRecDepth 100000 in
theorem mPower_bad2 (s E u : ByteArray) (q : Bool) (em vm : Bool) (w : World) (hs : s.size ≤ 9223372036854775807) (hE : E.size ≤ 9223372036854775807) (hu : u.size ≤ 9223372036854775807) (hva : validB s = true) (hvi : vI q E = true) (hvm : validB u = vm) (hem : u.toList.isEmpty = em) (h : vm = false ∨ em = true) :
    Calls Try.prog 26 #[.string s, .agg #[.bool q, .string E], .string u] w (Made w (.tuple #[.string ⟨#[]⟩, .int .i64 (chkE vm em)])) := by
  have HA := Lib.hid (fun W => valid_any s W hs)
  rw [hva] at HA
  have HI : Hid (∀ W, Calls Try.prog 6 #[.agg #[.bool q, .string E]] W (Made W (.bool true))) := Lib.hid (fun W => by
    have := ivalid_core q (validB E) (E.toList.isEmpty) E W hE rfl rfl
    have h2 := hvi
    unfold vI at h2
    rwa [h2] at this)
  have hve : validB E = true := by unfold vI at hvi; revert hvi; cases validB E <;> simp
  have HX := Lib.hid (fun W => mExp_err s E u vm em hs hE hu (by rw [hva, hve, hvm]; rfl) hem h W)
  have HN := Lib.hid (fun W => mInverse_err s u vm em hs hu (by rw [hva, hvm]; rfl) hem h W)
  have HV := (Below.refl w.heap.size w).alloc (Nat.le_refl _) (.cells #[.bool q, .string E] 26)
  have K := Bk.new w #[.bool q, .string E] 26
  obtain ⟨c, hc⟩ : ∃ c, c = chkE vm em := ⟨_, rfl⟩
  have hc0 : c = 3 ∨ c = 11 := by rcases chk_two h with ⟨_, k⟩ | ⟨_, _, k⟩ <;> omega
  rw [← hc] at HX HN ⊢
  clear hva hvi hvm hem h hs hE hu hve hc
  rcases hc0 with rfl | rfl <;> cases q
  all_goals
    go_enter Try.func26, Try.ntmps26
    go_wp2_with fail
    refine (HA.out _).mono ?_
    rintro e w' ⟨rfl, rfl⟩
    go_wp2_with fail
    refine (HI.out _).mono ?_
    rintro e u1 ⟨rfl, hb⟩
    replace K := K.below hb
    replace HV := HV.trans (hb.mono HV.size)
    clear hb
    have c0 : u1.cell? ⟨w.heap.size, 0, none⟩ = some (.bool _) := K.cell 0
    have c1 : u1.cell? ⟨w.heap.size, 1, none⟩ = some (.string E) := K.cell 1
    have l0 := K.lt
    go_wp2_with (first
      | (go_at_call 21; refine (HX.out _).mono ?_; rintro e u2 ⟨rfl, hb⟩; replace HV := HV.trans (hb.mono HV.size); clear hb)
      | (go_at_call 40; refine (HN.out _).mono ?_; rintro e u2 ⟨rfl, hb⟩; replace HV := HV.trans (hb.mono HV.size); clear hb))
    go_ret2
    exact ⟨rfl, HV⟩

end Go.Proofs.Ytmiafkbjmkaebaa
