/-
  The contracts of modular.remainder, modular.subtract, modular.Sub and modular.Add for canonical arguments.
-/
import Derived.Test.YtppdolmeeiookaaGreatModL
import Derived.Test.YtppdolmeeiookaaGreatNatD
namespace Go.Proofs.YtppdolmeeiookaaGreat
open Go.RowKit Num

set_option maxHeartbeats 1000000 in
set_option maxRecDepth 100000 in
theorem mremainder_ok (a M : Nat) (w : World) (ha : a < Top) (h0 : M ≠ 0) (hT : M < Top) :
    Calls Tryz.prog 26 #[.string (bs a), .string (bs M)] w (Made w (.string (bs (a % M)))) := by
  have HD := Lib.hid (fun W => divmod_ok ha hT h0 W)
  clear ha h0 hT
  go_enter Tryz.func26, Tryz.ntmps26
  go_wp2_with fail
  refine (HD.out _).mono ?_
  rintro e w1 ⟨rfl, hb⟩
  go_wp2
  go_ret
  exact ⟨rfl, hb⟩

theorem cmp_ge0 {a b : Nat} (h : b ≤ a) : 0 ≤ cmpN a b := by unfold cmpN; rw [if_neg (by omega)]; split <;> omega
theorem cmp_lt1 {a b : Nat} (h : a < b) : cmpN a b = -1 := by unfold cmpN; rw [if_pos h]

set_option maxHeartbeats 1000000 in
set_option maxRecDepth 100000 in
theorem msubtract_ok (a b M : Nat) (w : World) (ha : a < M) (hb : b ≤ M) (hT : M < Top) :
    Calls Tryz.prog 27 #[.string (bs a), .string (bs b), .string (bs M)] w (Made w (.string (bs ((a + (M - b)) % M)))) := by
  have HC := Lib.hid (fun W => cmp_yes (a := a) (b := b) (by omega) (by omega) W)
  by_cases h : a < b
  · have e : (a + (M - b)) % M = M - (b - a) := by
      rw [Nat.mod_eq_of_lt (by omega)]; omega
    have HS1 := Lib.hid (fun W => sub_ok (a := b) (b := a) (by omega) (by omega) (by omega) W)
    have HS2 := Lib.hid (fun W => sub_ok (a := M) (b := b - a) (by omega) (by omega) (by omega) W)
    rw [e]
    rw [cmp_lt1 h] at HC
    clear ha hb hT h e
    go_enter Tryz.func27, Tryz.ntmps27
    go_wp2_with fail
    refine (HC.out _).mono ?_
    rintro e w' ⟨rfl, rfl⟩
    go_wp2_with fail
    refine (HS1.out _).mono ?_
    rintro e w1 ⟨rfl, hb1⟩
    go_wp2_with fail
    refine (HS2.out _).mono ?_
    rintro e w2 ⟨rfl, hb2⟩
    go_wp2
    go_ret
    exact ⟨rfl, hb1.trans (hb2.mono hb1.size)⟩
  · have e : (a + (M - b)) % M = a - b := by
      rw [show a + (M - b) = (a - b) + M from by omega, Nat.add_mod_right, Nat.mod_eq_of_lt (by omega)]
    have HS1 := Lib.hid (fun W => sub_ok (a := a) (b := b) (by omega) (by omega) (by omega) W)
    have hc := cmp_ge0 (a := a) (b := b) (by omega)
    rw [e]
    generalize cmpN a b = c at *
    clear ha hb hT h e
    go_enter Tryz.func27, Tryz.ntmps27
    go_wp2_with fail
    refine (HC.out _).mono ?_
    rintro e w' ⟨rfl, rfl⟩
    go_wp2_with fail
    refine (HS1.out _).mono ?_
    rintro e w1 ⟨rfl, hb1⟩
    go_wp2
    go_ret
    exact ⟨rfl, hb1⟩

/-- The check of two numbers and a modulus, as the walk meets it. -/
theorem mcheck2 (a b M : Nat) (ha : a < Top) (hb : b < Top) (h0 : M ≠ 0) (hT : M < Top) (W : World) (g : Nat) (h1 : W.cell? ⟨g, 0, none⟩ = some (.string (bs a))) (h2 : W.cell? ⟨g, 1, none⟩ = some (.string (bs b))) (h3 : g < W.heap.size) :
    Calls Tryz.prog 24 #[.string (bs M), .slice (some ⟨g, 0, none⟩) 2 2] W (Same W (.int .i64 0)) :=
  mcheck_ok M 2 (fun i => if i = 0 then a else b) g W h0 hT (by omega) (fun i _ => by split <;> assumption) (fun i hi => by
    rcases (show i = 0 ∨ i = 1 by omega) with rfl | rfl
    · exact h1
    · exact h2) h3

set_option maxHeartbeats 1000000 in
set_option maxRecDepth 100000 in
theorem msub_ok (a b M : Nat) (w : World) (ha : a < Top) (hb' : b < Top) (h0 : M ≠ 0) (hT : M < Top) :
    Calls Tryz.prog 10 #[.string (bs a), .string (bs b), .string (bs M)] w (Made w (.tuple #[.string (bs ((a % M + (M - b % M)) % M)), .int .i64 0])) := by
  have HC := Lib.hid (mcheck2 a b M ha hb' h0 hT)
  have HRa := Lib.hid (fun W => mremainder_ok a M W ha h0 hT)
  have HRb := Lib.hid (fun W => mremainder_ok b M W hb' h0 hT)
  have HS := Lib.hid (fun W => msubtract_ok (a % M) (b % M) M W (Nat.mod_lt _ (by omega)) (Nat.le_of_lt (Nat.mod_lt _ (by omega))) hT)
  clear ha hb' h0 hT
  go_enter Tryz.func10, Tryz.ntmps10
  go_wp2_with fail
  have K0 := Bk.new w #[.string (bs a), .string (bs b)] 22
  refine (HC.out _ _ (K0.cell 0) (K0.cell 1) K0.lt).mono ?_
  rintro e w' ⟨rfl, rfl⟩
  have hb : Below w.heap.size w (w.alloc (.cells #[.string (bs a), .string (bs b)] 22)) := (Below.refl _ _).alloc (Nat.le_refl _) _
  clear K0
  go_wp2_with fail
  refine (HRa.out _).mono ?_
  rintro e w1 ⟨rfl, hb1⟩
  replace hb := hb.trans (hb1.mono hb.size)
  go_wp2_with fail
  refine (HRb.out _).mono ?_
  rintro e w2 ⟨rfl, hb2⟩
  replace hb := hb.trans (hb2.mono hb.size)
  go_wp2_with fail
  refine (HS.out _).mono ?_
  rintro e w3 ⟨rfl, hb3⟩
  replace hb := hb.trans (hb3.mono hb.size)
  go_wp2
  go_ret2
  exact ⟨by simp, hb⟩

theorem add_rem (a b M : Nat) (h0 : M ≠ 0) : (a % M + (M - (M - b % M))) % M = (a + b) % M := by
  have := Nat.mod_lt b (show 0 < M by omega)
  rw [show M - (M - b % M) = b % M from by omega, ← Nat.add_mod]

set_option maxHeartbeats 1000000 in
set_option maxRecDepth 100000 in
theorem madd_ok (a b M : Nat) (w : World) (ha : a < Top) (hb' : b < Top) (h0 : M ≠ 0) (hT : M < Top) :
    Calls Tryz.prog 8 #[.string (bs a), .string (bs b), .string (bs M)] w (Made w (.tuple #[.string (bs ((a + b) % M)), .int .i64 0])) := by
  have HC := Lib.hid (mcheck2 a b M ha hb' h0 hT)
  have HRa := Lib.hid (fun W => mremainder_ok a M W ha h0 hT)
  have HRb := Lib.hid (fun W => mremainder_ok b M W hb' h0 hT)
  have hbm := Nat.mod_lt b (show 0 < M by omega)
  have HM := Lib.hid (fun W => sub_ok (a := M) (b := b % M) hT (by omega) (by omega) W)
  have HS := Lib.hid (fun W => msubtract_ok (a % M) (M - b % M) M W (Nat.mod_lt _ (by omega)) (by omega) hT)
  rw [add_rem a b M h0] at HS
  obtain ⟨v, hv⟩ : ∃ v, v = (a + b) % M := ⟨_, rfl⟩
  rw [← hv] at HS ⊢
  clear ha hb' h0 hT hbm hv
  go_enter Tryz.func8, Tryz.ntmps8
  go_wp2_with fail
  have K0 := Bk.new w #[.string (bs a), .string (bs b)] 22
  refine (HC.out _ _ (K0.cell 0) (K0.cell 1) K0.lt).mono ?_
  rintro e w' ⟨rfl, rfl⟩
  have hb : Below w.heap.size w (w.alloc (.cells #[.string (bs a), .string (bs b)] 22)) := (Below.refl _ _).alloc (Nat.le_refl _) _
  clear K0
  go_wp2_with fail
  refine (HRb.out _).mono ?_
  rintro e w1 ⟨rfl, hb1⟩
  replace hb := hb.trans (hb1.mono hb.size)
  go_wp2_with fail
  refine (HM.out _).mono ?_
  rintro e w2 ⟨rfl, hb2⟩
  replace hb := hb.trans (hb2.mono hb.size)
  go_wp2_with fail
  refine (HRa.out _).mono ?_
  rintro e w3 ⟨rfl, hb3⟩
  replace hb := hb.trans (hb3.mono hb.size)
  go_wp2_with fail
  refine (HS.out _).mono ?_
  rintro e w4 ⟨rfl, hb4⟩
  replace hb := hb.trans (hb4.mono hb.size)
  go_wp2
  go_ret2
  exact ⟨rfl, hb⟩

end Go.Proofs.YtppdolmeeiookaaGreat
