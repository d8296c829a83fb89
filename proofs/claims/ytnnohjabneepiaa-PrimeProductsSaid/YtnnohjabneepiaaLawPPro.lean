/-
  The law of dominolaw04.PrimeProducts.
-/
import Derived.Test.YtnnohjabneepiaaPriP
import Derived.Test.YtnnohjabneepiaaPriS
namespace Go.Proofs.Ytnnohjabneepiaa
open Go.RowKit Num

def mulL (l : List Nat) : Nat := l.foldl (· * ·) 1
theorem mulL_snoc (l : List Nat) (p : Nat) : mulL (l ++ [p]) = mulL l * p := by simp [mulL, List.foldl_append]
theorem foldl_mulL : ∀ (l : List Nat) (a : Nat), l.foldl (· * ·) a = a * mulL l := by
  intro l
  induction l with
  | nil => intro a; simp [mulL]
  | cons p t ih =>
    intro a
    rw [List.foldl_cons, ih]
    unfold mulL
    rw [List.foldl_cons, Nat.one_mul, ih p, Nat.mul_assoc]
    rfl
theorem mulL_cons (p : Nat) (t : List Nat) : mulL (p :: t) = p * mulL t := by
  unfold mulL
  rw [List.foldl_cons, Nat.one_mul, foldl_mulL]
  rfl
theorem mulL_append (l t : List Nat) : mulL (l ++ t) = mulL l * mulL t := by
  unfold mulL
  rw [List.foldl_append, foldl_mulL]
  rfl
theorem isfac_prod : ∀ {l : List Nat} {n : Nat}, IsFac n l → mulL l = n := by
  intro l
  induction l with
  | nil => intro n h; rw [show n = 1 from h]; rfl
  | cons p t ih =>
    intro n h
    obtain ⟨⟨h2, hd, _⟩, ht⟩ := h
    rw [mulL_cons, ih ht]
    exact Nat.mul_div_cancel' hd
theorem isfac_prime : ∀ {l : List Nat} {n : Nat}, IsFac n l → ∀ p, p ∈ l → isPN p = true := by
  intro l
  induction l with
  | nil => intro n _ p hp; simp at hp
  | cons q t ih =>
    intro n h p hp
    rcases List.mem_cons.1 hp with rfl | hp
    · exact prime_isPN h.1.prime
    · exact ih h.2 p hp
def lastL (l : List Nat) : Nat := l.getLastD 0
theorem lastL_snoc (l : List Nat) (p : Nat) : lastL (l ++ [p]) = p := by simp [lastL]
/-- The factors ascend. -/
theorem isfac_asc : ∀ {l : List Nat} {n m : Nat}, IsFac n l → Rough m n → ∀ i, i < l.length → lastL (m :: l.take i) ≤ l.getD i 0 := by
  intro l
  induction l with
  | nil => intro n m _ _ i hi; simp at hi
  | cons p t ih =>
    intro n m h hm i hi
    obtain ⟨⟨h2, hd, hl⟩, ht⟩ := h
    cases i with
    | zero => simpa [lastL] using hm p h2 hd
    | succ i =>
      have h3 := ih (m := p) ht (fun e he hde => hl e he (Nat.dvd_trans hde ⟨p, (Nat.div_mul_cancel hd).symm⟩)) i (by simpa using hi)
      simpa [lastL] using h3
theorem lastL_cons (l : List Nat) : lastL (0 :: l) = lastL l := by cases l <;> simp [lastL]
theorem fac_step {N : Nat} {L : List Nat} (h0 : N ≠ 0) (h : IsFac N L) {i : Nat} (hi : i < L.length) :
    L.take (i + 1) = L.take i ++ [L.getD i 0] ∧ mulL (L.take (i + 1)) = mulL (L.take i) * L.getD i 0 ∧ mulL (L.take (i + 1)) ≤ N ∧ lastL (L.take (i + 1)) = L.getD i 0 ∧ lastL (L.take i) ≤ L.getD i 0 ∧ L.getD i 0 ≤ N ∧ isPN (L.getD i 0) = true := by
  have e : L.take (i + 1) = L.take i ++ [L.getD i 0] := by rw [List.take_succ_eq_append_getElem hi]; simp [hi]
  refine ⟨e, by rw [e, mulL_snoc], ?_, by rw [e, lastL_snoc], ?_, fac_le h hi, isfac_prime h _ ?_⟩
  · have h1 := isfac_prod h
    rw [← List.take_append_drop (i + 1) L, mulL_append] at h1
    refine Nat.le_of_dvd (by omega) ⟨_, h1.symm⟩
  · have := isfac_asc (m := 0) h (fun _ _ _ => Nat.zero_le _) i hi
    rwa [lastL_cons] at this
  · simp [List.getD_eq_getElem?_getD, hi]

set_option maxHeartbeats 2000000 in
set_option maxRecDepth 100000 in
theorem ppro_core (a r N : Nat) (w : World) (hr : a % 1099511627775 = r) (hN : N = r + 1) (hNb : N < 1099511627776) :
    Calls Try.prog 11 #[.int .u64 (a : Int)] w (Made w (.bool true)) := by
  have h0 : N ≠ 0 := by omega
  have e1 : (a : Int) % 1099511627775 = (r : Int) := by omega
  have e1' : Int.tmod (a : Int) 1099511627775 = (r : Int) := by rw [Int.tmod_eq_emod_of_nonneg (by omega)]; exact e1
  have e2 : (r : Int) + 1 = (N : Int) := by omega
  have w1 : IntKind.u64.wrap (r : Int) = (r : Int) := by rw [IntKind.wrap_u64]; omega
  have w2 : IntKind.u64.wrap (N : Int) = (N : Int) := by rw [IntKind.wrap_u64]; omega
  have HO := Lib.hid (fun W => of4_ok N W (Nat.lt_trans hNb (by decide)))
  have HL := Lib.hid (fun W => pfactors_ok N W h0 hNb)
  have HW := Lib.hid awake4
  have HN := Lib.hid (And.intro h0 hNb)
  have HV : Below w.heap.size w w := Below.refl _ _
  clear hr hN hNb h0
  go_enter Try.func11, Try.ntmps11
  go_wp2_with fail
  refine (HO.out _).mono ?_
  rintro e u1 ⟨rfl, hb⟩
  replace HV := HV.trans (hb.mono HV.size)
  clear hb
  go_wp2_with fail
  refine (HL.out _).mono ?_
  rintro e u2 ⟨v, L, rfl, hfac, hlen, hown, hb⟩
  replace HV := HV.trans (hb.mono HV.size)
  obtain ⟨A, cap, rfl, hc⟩ := owns_nats hown
  have HC := Lib.hid hc
  have HS := Lib.hid (fun i (hi : i < L.length) => fac_step HN.out.1 hfac hi)
  have HP := Lib.hid (isfac_prod hfac)
  have hd40 : decide ((40 : Int) < (L.length : Int)) = false := by simp; omega
  clear hb hfac hown hc e1 e1' e2 w1
  go_wp2
  go_loopw [5, 6, 31] (fun x5 x6 x31 wr => ∃ i : Nat, i ≤ L.length ∧ x31 = .int .i64 i ∧ x5 = .int .u64 ((mulL (L.take i) : Nat) : Int) ∧ x6 = .int .u64 ((lastL (L.take i) : Nat) : Int) ∧ Hid (Below w.heap.size w wr ∧ Below u2.heap.size u2 wr)) (fun _ _ x31 _ => L.length - (intOf x31).toNat)
  case atStart => exact ⟨0, Nat.zero_le _, rfl, rfl, rfl, Lib.hid ⟨HV, Below.refl _ _⟩⟩
  case round =>
    obtain ⟨i, hi, rfl, rfl, rfl, HB⟩ := hrel
    by_cases hlt : i < L.length
    · obtain ⟨g, rfl, _, hg, hcell⟩ := HC.out i hlt
      have s1 := HS.out i hlt
      have d1 := (HB.out.2.cell (p := ⟨g, i, none⟩) hg).trans hcell
      have l1 : g < wr.heap.size := Nat.lt_of_lt_of_le hg HB.out.2.size
      generalize L.getD i 0 = p at *
      obtain ⟨s2, s3, s4, s5, s6, s7, s8⟩ := s1
      obtain ⟨P1, hP1⟩ : ∃ x, x = mulL (L.take i) := ⟨_, rfl⟩
      obtain ⟨P2, hP2⟩ : ∃ x, x = mulL (L.take (i + 1)) := ⟨_, rfl⟩
      obtain ⟨q, hq⟩ : ∃ x, x = lastL (L.take i) := ⟨_, rfl⟩
      rw [← hP1] at s3 ⊢
      rw [← hP2] at s3 s4
      rw [← hq] at s6 ⊢
      have ep : (P1 : Int) * (p : Int) = (P2 : Int) := by rw [s3, Int.natCast_mul]
      have wp : IntKind.u64.wrap (P2 : Int) = (P2 : Int) := by have := HN.out.2; rw [IntKind.wrap_u64]; omega
      have dq : decide ((p : Int) < (q : Int)) = false := by simp; omega
      have dn : decide ((N : Int) < (p : Int)) = false := by simp; omega
      have dq2 : q ≤ p := s6
      have dq3 : ¬ p < q := by omega
      have dn2 : p ≤ N := s7
      have dn3 : ¬ N < p := by omega
      have HU := Lib.hid (fun W => u4_yes p W (by have := HN.out.2; omega))
      have HI := Lib.hid (fun W => pis_ok p W (by have := HN.out.2; omega))
      rw [s8] at HI
      have HE := Lib.hid (And.intro hP2 s5)
      clear hcell s2 s3 s4 s5 s6 s7 s8 hP1 hP2 hq hg
      go_wp2_with fail
      refine (HU.out _).mono ?_
      rintro e u3 ⟨rfl, rfl⟩
      go_wp2_with fail
      refine (HI.out _).mono ?_
      rintro e u4 ⟨rfl, hb⟩
      have HB2 := Lib.hid (And.intro (HB.out.1.trans (hb.mono HB.out.1.size)) (HB.out.2.trans (hb.mono HB.out.2.size)))
      clear hb
      go_wp2
      go_roundw
      case rel => exact ⟨i + 1, by omega, by go_num, by rw [HE.out.1], by rw [HE.out.2], HB2⟩
      case measure => simp [intOf]; omega
    · obtain rfl : i = L.length := by omega
      rw [List.take_length, HP.out]
      go_wp2_with fail
      refine (HW.out _).mono ?_
      rintro e u3 ⟨rfl, hb⟩
      have HVV := HB.out.1.trans (hb.mono HB.out.1.size)
      clear hb
      go_wp2
      go_ret
      exact ⟨rfl, HVV⟩

theorem law_ppro (a : Int) (w : World) (h : 0 ≤ a ∧ a ≤ 18446744073709551615) :
    Calls Try.prog 11 #[.int .u64 a] w (Made w (.bool true)) := by
  obtain ⟨n, rfl⟩ := Int.eq_ofNat_of_zero_le h.1
  exact ppro_core n (n % 1099511627775) (n % 1099511627775 + 1) w rfl rfl (by have := Nat.mod_lt n (show 0 < 1099511627775 by decide); omega)
end Go.Proofs.Ytnnohjabneepiaa
