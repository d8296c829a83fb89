/-
  The contracts of modular.multiplier, of the multiplication that it makes, and of modular.check for canonical arguments.
-/
import Derived.Test.YtmiafkbjmkaebaaGreatModK
import Derived.Test.YtmiafkbjmkaebaaGreatConM
namespace Go.Proofs.YtmiafkbjmkaebaaGreat
open Go.RowKit Num

theorem sx_below {w w' w'' : World} {bc ga n s : Nat} {Y : List Nat} (h : w'.cell? ⟨bc, 0, none⟩ = some (.slice (some ⟨ga, 0, none⟩) n n) ∧ w'.cell? ⟨bc, 1, none⟩ = some (.int .i64 (s : Int)) ∧ Hid (Below w.heap.size w w' ∧ Bk w' bc #[.slice (some ⟨ga, 0, none⟩) n n, .int .i64 (s : Int)] 81 ∧ IsW w' (some ⟨ga, 0, none⟩) Y)) (hb : Below w'.heap.size w' w'') : w''.cell? ⟨bc, 0, none⟩ = some (.slice (some ⟨ga, 0, none⟩) n n) ∧ w''.cell? ⟨bc, 1, none⟩ = some (.int .i64 (s : Int)) ∧ Hid (Below w.heap.size w w'' ∧ Bk w'' bc #[.slice (some ⟨ga, 0, none⟩) n n, .int .i64 (s : Int)] 81 ∧ IsW w'' (some ⟨ga, 0, none⟩) Y) := by
  obtain ⟨_, _, hk⟩ := h
  obtain ⟨h1, h2, h3⟩ := hk.out
  exact ⟨(h2.below hb).cell 0, (h2.below hb).cell 1, Lib.hid ⟨h1.trans (hb.mono h1.size), h2.below hb, h3.below hb⟩⟩
theorem sx_grown {w w' w'' : World} {bc ga n s g : Nat} {Y : List Nat} (h : w'.cell? ⟨bc, 0, none⟩ = some (.slice (some ⟨ga, 0, none⟩) n n) ∧ w'.cell? ⟨bc, 1, none⟩ = some (.int .i64 (s : Int)) ∧ Hid (Below w.heap.size w w' ∧ Bk w' bc #[.slice (some ⟨ga, 0, none⟩) n n, .int .i64 (s : Int)] 81 ∧ IsW w' (some ⟨ga, 0, none⟩) Y)) (hg : w'.grownBy w'' (some g)) (hw : w.heap.size ≤ g) (hbc : bc < w.heap.size) (hga : ga < w.heap.size) : w''.cell? ⟨bc, 0, none⟩ = some (.slice (some ⟨ga, 0, none⟩) n n) ∧ w''.cell? ⟨bc, 1, none⟩ = some (.int .i64 (s : Int)) ∧ Hid (Below w.heap.size w w'' ∧ Bk w'' bc #[.slice (some ⟨ga, 0, none⟩) n n, .int .i64 (s : Int)] 81 ∧ IsW w'' (some ⟨ga, 0, none⟩) Y) := by
  obtain ⟨_, _, hk⟩ := h
  obtain ⟨h1, h2, h3⟩ := hk.out
  have k2 := h2.kept hg (fun e => by injection e with e; omega)
  exact ⟨k2.cell 0, k2.cell 1, Lib.hid ⟨h1.grown hg h1.size (fun k hk => by injection hk with hk; omega), k2, h3.grown hg (fun a e => by cases e; show ga ≠ g; omega)⟩⟩

set_option maxHeartbeats 1000000 in
set_option maxRecDepth 100000 in
theorem mtimes_any (ga n p s M g1 g2 c1 c2 bc : Nat) (Y Z1 Z2 : List Nat) (w : World) (hF : ModF n p s M Y) (hY : IsW w (some ⟨ga, 0, none⟩) Y) (hga : ga < w.heap.size)
    (h1 : IsW w (some ⟨g1, 0, none⟩) Z1) (h2 : IsW w (some ⟨g2, 0, none⟩) Z2) (hl1 : Z1.length = n) (hl2 : Z2.length = n) (hc : Bk w bc #[.slice (some ⟨ga, 0, none⟩) n n, .int .i64 (s : Int)] 81) :
    Calls Tryz.prog 89 #[.slice (some ⟨g1, 0, none⟩) n c1, .slice (some ⟨g2, 0, none⟩) n c2, .pointer (some ⟨bc, 0, none⟩)] w (MadeN w n (dv B64 Z1 * dv B64 Z2 % M)) := by
  have hnp := hF.np
  have hn16 := hF.le
  have HP := Lib.hid (fun (W : World) (k1 : IsW W (some ⟨g1, 0, none⟩) Z1) (k2 : IsW W (some ⟨g2, 0, none⟩) Z2) => wproduct_any g1 0 c1 g2 0 c2 n n Z1 Z2 W k1 k2 hl1 hl2 (by omega) (by omega) (by omega) (by omega))
  have HR := Lib.hid (fun (W : World) (g' : Nat) (X : List Nat) (k1 : Wg W g' X) (k2 : IsW W (some ⟨ga, 0, none⟩) Y) (k3 : ga ≠ g') (k4 : X.length = n + n + 1) (k5 : SmallW X) (k6 : dv B64 X = dv B64 Z1 * dv B64 Z2) => wreduce_any g' 0 (n + 1) (n + n + 1) n p s (n + n + 1) ga 0 n M [] [] X Y W (Wv.of_wg k1) rfl k5 k4 (by omega) hnp (Nat.le_refl _) (by omega) (by
    have e1 := h1.1.dv_lt
    have e2 := h2.1.dv_lt
    rw [hl1] at e1
    rw [hl2] at e2
    rw [k6]
    have e3 : dv B64 Z1 * dv B64 Z2 < B64 ^ n * B64 ^ n := Nat.mul_lt_mul'' e1 e2
    rw [← Nat.pow_add] at e3
    rw [show n + 1 + p = n + n from by omega]
    exact e3) k2 k3 hF.len hF.val hF.sh hF.top hF.ge)
  have c0 := hc.cell 0
  have c1' := hc.cell 1
  have hl := hc.lt
  have HGA := Lib.hid hga
  have HBC := Lib.hid hl
  have HPP := Lib.hid (fun (W : World) (k1 : IsW W (some ⟨g1, 0, none⟩) Z1) (k2 : IsW W (some ⟨g2, 0, none⟩) Z2) => (HP.out W k1 k2).mono (R' := fun e w' => ∃ (g : Nat) (X : List Nat), e = .returned (.slice (some ⟨g, 0, none⟩) (n + n + 1) (n + n + 1)) ∧ X.length = n + n + 1 ∧ SmallW X ∧ Wg w' g X ∧ dv B64 X = dv B64 Z1 * dv B64 Z2 ∧ W.heap.size ≤ g ∧ Below W.heap.size W w') fun e w' h => by
    obtain ⟨X, rfl, e1, e2, e3, e4, e5⟩ := h
    exact ⟨_, X, by rw [e1], e1, e2, e3, e4, Nat.le_refl _, e5⟩)
  clear hnp hF hl1 hl2 hga HP
  go_enter Tryz.func89, Tryz.ntmps89
  go_wp2_with fail
  go_region_held3 (fun w' => w'.cell? ⟨bc, 0, none⟩ = some (.slice (some ⟨ga, 0, none⟩) n n) ∧ w'.cell? ⟨bc, 1, none⟩ = some (.int .i64 (s : Int)) ∧ Hid (Below w.heap.size w w' ∧ Bk w' bc #[.slice (some ⟨ga, 0, none⟩) n n, .int .i64 (s : Int)] 81 ∧ IsW w' (some ⟨ga, 0, none⟩) Y)) (first | assumption | exact ⟨c0, c1', Lib.hid ⟨(Below.refl _ _).drew, hc.drew, hY.drew⟩⟩) (first | (go_at_call 90; obtain ⟨k1, k2, hk⟩ := ‹_ ∧ _›; refine (HPP.out _ (h1.below hk.out.1) (h2.below hk.out.1)).mono ?_; rintro e w1 ⟨g', X, rfl, hXl, hXs, hXg, hXv, hXb, hb1⟩; have hSx : w1.cell? ⟨bc, 0, none⟩ = some (.slice (some ⟨ga, 0, none⟩) n n) ∧ w1.cell? ⟨bc, 1, none⟩ = some (.int .i64 (s : Int)) ∧ Hid (Below w.heap.size w w1 ∧ Bk w1 bc #[.slice (some ⟨ga, 0, none⟩) n n, .int .i64 (s : Int)] 81 ∧ IsW w1 (some ⟨ga, 0, none⟩) Y) := sx_below ⟨k1, k2, hk⟩ hb1; replace hXb := Nat.le_trans hk.out.1.size hXb; clear k1 k2 hk hb1) | (go_at_call 88; refine (HR.out _ g' X hXg hSx.2.2.out.2.2 (by have := HGA.out; omega) hXl hXs hXv).mono ?_; rintro e w3 ⟨zs, rfl, hzl, hzs, hzw, hzv, hgr3⟩; have hSx3 : w3.cell? ⟨bc, 0, none⟩ = some (.slice (some ⟨ga, 0, none⟩) n n) ∧ w3.cell? ⟨bc, 1, none⟩ = some (.int .i64 (s : Int)) ∧ Hid (Below w.heap.size w w3 ∧ Bk w3 bc #[.slice (some ⟨ga, 0, none⟩) n n, .int .i64 (s : Int)] 81 ∧ IsW w3 (some ⟨ga, 0, none⟩) Y) := sx_grown hSx hgr3 hXb HBC.out HGA.out; clear hgr3))
  all_goals
    obtain ⟨_, _, hk⟩ := ‹_ ∧ _›
    have hL : n ≤ zs.length := by omega
    have HL := Lib.hid (show (zs.take n).length = n from by rw [List.length_take]; omega)
    have HI : IsW w3 (some ⟨g', 0, none⟩) (zs.take n) := by
      refine Wv.isW (P := []) (S := cellsW (zs.drop n) ++ []) (Wv.head ?_) (hzs.take n) rfl
      rw [List.take_append_drop]
      exact hzw
    rw [hXv] at hzv
    go_wp2
    go_ret
    exact ⟨g', n + n + 1, zs.take n, rfl, HL.out, HI, hzv, hXb, by omega, hk.out.1⟩

set_option maxHeartbeats 1000000 in
set_option maxRecDepth 100000 in
theorem multiplier_any (v1 v2 : Value) (w : World) :
    Calls Tryz.prog 61 #[.agg #[v1, v2]] w (fun e w' => e = .returned (.func (.func 89) #[] #[.pointer (some ⟨w.heap.size, 0, none⟩)]) ∧ Bk w' w.heap.size #[v1, v2] 81 ∧ Below w.heap.size w w') := by
  go_enter Tryz.func61, Tryz.ntmps61
  go_wp2
  go_ret
  exact ⟨rfl, Bk.new _ _ _, (Below.refl _ _).alloc (Nat.le_refl _) _⟩

set_option maxHeartbeats 1000000 in
set_option maxRecDepth 100000 in
theorem mcheck_ok (M k : Nat) (f : Nat → Nat) (g : Nat) (w : World) (h0 : M ≠ 0) (hT : M < Top) (hk : k ≤ 8) (hf : ∀ i, i < k → f i < Top) (hc : ∀ i, i < k → w.cell? ⟨g, i, none⟩ = some (.string (bs (f i)))) (hg : g < w.heap.size) :
    Calls Tryz.prog 56 #[.string (bs M), .slice (some ⟨g, 0, none⟩) k k] w (Same w (.int .i64 0)) := by
  have HM := Lib.hid (fun W => valid_yes hT W)
  have HV := Lib.hid (fun i (h : i < k) W => valid_yes (hf i h) W)
  have hne : (bs M).toList.isEmpty = false := by rw [bs_isEmpty]; simpa using h0
  have HC := Lib.hid hc
  clear hT hf h0 hc
  go_enter Tryz.func56, Tryz.ntmps56
  go_wp2
  go_loopw [9] (fun x wr => ∃ i : Nat, i ≤ k ∧ x = .int .i64 i ∧ wr = w) (fun x _ => k - (intOf x).toNat)
  case atStart => exact ⟨0, Nat.zero_le _, rfl, rfl⟩
  case round =>
    obtain ⟨i, hi, rfl, rfl⟩ := hrel
    by_cases hlt : i < k
    · have hci := HC.out i hlt
      have HVi := Lib.hid (HV.out i hlt)
      go_wp2_with (go_at_call 31; refine (HVi.out _).mono ?_; rintro e w' ⟨rfl, rfl⟩)
      go_roundw
      case rel => exact ⟨i + 1, by omega, by go_num, trivial⟩
      case measure => simp [intOf]; omega
    · go_wp2_with (go_at_call 31; refine (HM.out _).mono ?_; rintro e w' ⟨rfl, rfl⟩)
      go_ret
      exact ⟨rfl, rfl⟩

end Go.Proofs.YtmiafkbjmkaebaaGreat
