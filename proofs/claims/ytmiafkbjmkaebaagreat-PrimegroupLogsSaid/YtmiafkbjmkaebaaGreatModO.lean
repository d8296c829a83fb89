/-
  The contract of modular.Inverse for canonical arguments.
-/
import Derived.Test.YtmiafkbjmkaebaaGreatModN
import Derived.Test.YtmiafkbjmkaebaaGreatIntQ
namespace Go.Proofs.YtmiafkbjmkaebaaGreat
open Go.RowKit Num

theorem ext_one {a M X : Nat} (hg : Nat.gcd a M = 1) (hX : X < M) (h : a * X % M = 1 % M) : ∃ Y : Int, IsExt a M (X : Int) Y := by
  have e1 := Nat.div_add_mod (a * X) M
  have e2 := Nat.div_add_mod 1 M
  rw [h] at e1
  refine ⟨((1 / M : Nat) : Int) - ((a * X / M : Nat) : Int), ?_, by omega, ?_⟩
  · rw [hg, Int.mul_sub]
    have f1 : (M : Int) * ((a * X / M : Nat) : Int) = ((M * (a * X / M) : Nat) : Int) := by rw [Int.natCast_mul]
    have f2 : (M : Int) * ((1 / M : Nat) : Int) = ((M * (1 / M) : Nat) : Int) := by rw [Int.natCast_mul]
    have f3 : (a : Int) * (X : Int) = ((a * X : Nat) : Int) := by rw [Int.natCast_mul]
    rw [f1, f2, f3]
    omega
  · rw [hg, Nat.div_one]; omega

set_option maxHeartbeats 1000000 in
set_option maxRecDepth 100000 in
theorem mcheck1 (a M : Nat) (ha : a < Top) (h0 : M ≠ 0) (hT : M < Top) (W : World) (g : Nat) (h1 : W.cell? ⟨g, 0, none⟩ = some (.string (bs a))) (h3 : g < W.heap.size) :
    Calls Tryz.prog 56 #[.string (bs M), .slice (some ⟨g, 0, none⟩) 1 1] W (Same W (.int .i64 0)) :=
  mcheck_ok M 1 (fun _ => a) g W h0 hT (by omega) (fun i _ => ha) (fun i hi => by
    obtain rfl : i = 0 := by omega
    exact h1) h3

set_option maxHeartbeats 1000000 in
set_option maxRecDepth 100000 in
theorem minverse_core (a M G : Nat) (X Y : Int) (d : Bool) (w : World) (hC : ∀ (W : World) (g : Nat), W.cell? ⟨g, 0, none⟩ = some (.string (bs a)) → g < W.heap.size → Calls Tryz.prog 56 #[.string (bs M), .slice (some ⟨g, 0, none⟩) 1 1] W (Same W (.int .i64 0)))
    (hE : ∀ W, Calls Tryz.prog 96 #[.string (bs a), .string (bs M)] W (Made W (.tuple #[.string (bs G), (.agg #[.bool (zneg X), .string (bs (zabs X))]), (.agg #[.bool (zneg Y), .string (bs (zabs Y))]), .int .i64 0]))) (hd : ((bs G).toList == (bs 1).toList) = d) :
    Calls Tryz.prog 65 #[.string (bs a), .string (bs M)] w (Made w (if d then .tuple #[.string (bs (zabs X)), .int .i64 0] else .tuple #[.string (bs 0), .int .i64 9])) := by
  have HC := Lib.hid hC
  have HE := Lib.hid hE
  have HO := Lib.hid (fun W => of_any 1 (by decide) W)
  clear hC hE
  cases d
  all_goals
    rw [bs_zero]
    go_enter Tryz.func65, Tryz.ntmps65
    go_wp2_with fail
    have K0 := Bk.new w #[.string (bs a)] 22
    refine (HC.out _ _ (K0.cell 0) K0.lt).mono ?_
    rintro e w' ⟨rfl, rfl⟩
    have hb : Below w.heap.size w (w.alloc (.cells #[.string (bs a)] 22)) := (Below.refl _ _).alloc (Nat.le_refl _) _
    clear K0
    go_wp2_with fail
    refine (HE.out _).mono ?_
    rintro e w1 ⟨rfl, hb1⟩
    replace hb := hb.trans (hb1.mono hb.size)
    have K1 := (Bk.new w1 #[.bool (zneg X), .string (bs (zabs X))] 38).alloc (.cells #[.bool (zneg Y), .string (bs (zabs Y))] 38)
    replace hb := (hb.alloc hb.size (.cells #[.bool (zneg X), .string (bs (zabs X))] 38)).alloc (by have := hb.size; simp; omega) (.cells #[.bool (zneg Y), .string (bs (zabs Y))] 38)
    clear hb1
    go_wp2_with fail
    refine (HO.out _).mono ?_
    rintro e w2 ⟨rfl, hb2⟩
    replace K1 := K1.below hb2
    replace hb := hb.trans (hb2.mono hb.size)
    have c0 := K1.cell 0
    have c1 := K1.cell 1
    have l0 := K1.lt
    clear hb2
    go_wp2
    go_ret2
    exact ⟨rfl, hb⟩

theorem minverse_ok (a M X : Nat) (w : World) (ha : a < 256 ^ 60) (hM : M < 256 ^ 60) (h0 : M ≠ 0) (hg : Nat.gcd a M = 1) (hX : X < M) (h : a * X % M = 1 % M) :
    Calls Tryz.prog 65 #[.string (bs a), .string (bs M)] w (Made w (.tuple #[.string (bs X), .int .i64 0])) := by
  obtain ⟨Y, hY⟩ := ext_one hg hX h
  have := minverse_core a M (Nat.gcd a M) (X : Int) Y true w (mcheck1 a M (lt_top60 ha) h0 (lt_top60 hM)) (fun W => extended_pos ha hM h0 hY W) (by rw [bs_beq, hg]; rfl)
  rw [zabs_nat] at this
  exact this
theorem minverse_none (a M : Nat) (w : World) (ha : a < 256 ^ 60) (hM : M < 256 ^ 60) (h0 : M ≠ 0) (hg : Nat.gcd a M ≠ 1) :
    Calls Tryz.prog 65 #[.string (bs a), .string (bs M)] w (Made w (.tuple #[.string (bs 0), .int .i64 9])) := by
  obtain ⟨X, Y, hE⟩ : ∃ X Y : Int, IsExt a M X Y := by
    obtain ⟨h1, _⟩ := bez_spec M a
    exact ⟨_, _, ext_of h0 h1⟩
  exact minverse_core a M (Nat.gcd a M) X Y false w (mcheck1 a M (lt_top60 ha) h0 (lt_top60 hM)) (fun W => extended_pos ha hM h0 hE W) (by rw [bs_beq]; exact beq_false_of_ne hg)

end Go.Proofs.YtmiafkbjmkaebaaGreat
