/-
  The contract of modular.Exp for canonical arguments.
-/
import Derived.Test.YtmiafkbjmkaebaaGreatModM
import Derived.Test.YtmiafkbjmkaebaaGreatModQ
import Derived.Test.YtmiafkbjmkaebaaGreatAwake
namespace Go.Proofs.YtmiafkbjmkaebaaGreat
open Go.RowKit Num

/-- The modulus in its block, beside the first world. -/
abbrev SX (w : World) (bm ga n s : Nat) (Y : List Nat) (w' : World) : Prop := w'.cell? ⟨bm, 0, none⟩ = some (.slice (some ⟨ga, 0, none⟩) n n) ∧ w'.cell? ⟨bm, 1, none⟩ = some (.int .i64 (s : Int)) ∧ Hid (Below w.heap.size w w' ∧ Bk w' bm #[.slice (some ⟨ga, 0, none⟩) n n, .int .i64 (s : Int)] 81 ∧ IsW w' (some ⟨ga, 0, none⟩) Y)
theorem sX_below {w w' w'' : World} {bm ga n s : Nat} {Y : List Nat} (h : w'.cell? ⟨bm, 0, none⟩ = some (.slice (some ⟨ga, 0, none⟩) n n) ∧ w'.cell? ⟨bm, 1, none⟩ = some (.int .i64 (s : Int)) ∧ Hid (Below w.heap.size w w' ∧ Bk w' bm #[.slice (some ⟨ga, 0, none⟩) n n, .int .i64 (s : Int)] 81 ∧ IsW w' (some ⟨ga, 0, none⟩) Y)) (hb : Below w'.heap.size w' w'') : w''.cell? ⟨bm, 0, none⟩ = some (.slice (some ⟨ga, 0, none⟩) n n) ∧ w''.cell? ⟨bm, 1, none⟩ = some (.int .i64 (s : Int)) ∧ Hid (Below w.heap.size w w'' ∧ Bk w'' bm #[.slice (some ⟨ga, 0, none⟩) n n, .int .i64 (s : Int)] 81 ∧ IsW w'' (some ⟨ga, 0, none⟩) Y) := by
  obtain ⟨_, _, hk⟩ := h
  obtain ⟨h1, h2, h4⟩ := hk.out
  exact ⟨(h2.below hb).cell 0, (h2.below hb).cell 1, Lib.hid ⟨h1.trans (hb.mono h1.size), h2.below hb, h4.below hb⟩⟩

set_option maxHeartbeats 2000000 in
set_option maxRecDepth 100000 in
theorem mexp_ok (a b M : Nat) (w : World) (ha : a < Top) (hb' : b < Top) (h0 : M ≠ 0) (hT : M < Top) :
    Calls Tryz.prog 33 #[.string (bs a), .string (bs b), .string (bs M)] w (Made w (.tuple #[.string (bs (a ^ b % M)), .int .i64 0])) := by
  have HC := Lib.hid (fun (W : World) (g : Nat) (h1 : W.cell? ⟨g, 0, none⟩ = some (.string (bs a))) (h2 : W.cell? ⟨g, 1, none⟩ = some (.string (bs b))) (h3 : g < W.heap.size) => mcheck_ok M 2 (fun i => if i = 0 then a else b) g W h0 hT (by omega) (fun i _ => by split <;> assumption) (fun i hi => by
    rcases (show i = 0 ∨ i = 1 by omega) with rfl | rfl
    · exact h1
    · exact h2) h3)
  have HM := Lib.hid (fun W => modulusof_any M W h0 hT)
  go_enter Tryz.func33, Tryz.ntmps33
  go_wp2_with fail
  have K0 := Bk.new w #[.string (bs a), .string (bs b)] 22
  refine (HC.out _ _ (K0.cell 0) (K0.cell 1) K0.lt).mono ?_
  rintro e w' ⟨rfl, rfl⟩
  go_wp2_with fail
  refine (HM.out _).mono ?_
  rintro e w2 ⟨ga, n, p, s, Y, rfl, hF, hgw, hYg, hb2⟩
  have hb0 : Below w.heap.size w w2 := ((Below.refl _ _).alloc (Nat.le_refl _) _).trans (hb2.mono (by simp))
  have hgl := hYg.lt
  have hgw' : w.heap.size ≤ ga := by simp at hgw; omega
  clear hb2 hgw K0
  obtain ⟨bm, hbm⟩ : ∃ x, x = w2.heap.size := ⟨_, rfl⟩
  have K1 : Bk (w2.alloc (.cells #[.slice (some ⟨ga, 0, none⟩) n n, .int .i64 (s : Int)] 81)) bm #[.slice (some ⟨ga, 0, none⟩) n n, .int .i64 (s : Int)] 81 := by rw [hbm]; exact Bk.new _ _ _
  have hb3 : Below w.heap.size w (w2.alloc (.cells #[.slice (some ⟨ga, 0, none⟩) n n, .int .i64 (s : Int)] 81)) := hb0.alloc hb0.size _
  have hY3 : IsW (w2.alloc (.cells #[.slice (some ⟨ga, 0, none⟩) n n, .int .i64 (s : Int)] 81)) (some ⟨ga, 0, none⟩) Y := (IsW.of_wg hYg hF.sm).below ((Below.refl _ _).alloc (Nat.le_refl _) _)
  have d0 := K1.cell 0
  have d1 := K1.cell 1
  have HGA := Lib.hid (show ga < bm from by omega)
  have HO := Lib.hid (fun W => (of_lit 1 (by decide) (by decide) W : Calls Tryz.prog 34 #[.int .u64 1] W (Made W (.string (bs 1)))))
  have HW1 := Lib.hid (fun (W : World) (k1 : IsW W (some ⟨ga, 0, none⟩) Y) (k2 : bm < W.heap.size) => mwords_any ga n p s M 1 Y W hF k1 (show 1 < Top from by unfold Top; decide) (by have := HGA.out; omega))
  have HWa := Lib.hid (fun (W : World) (k1 : IsW W (some ⟨ga, 0, none⟩) Y) (k2 : bm < W.heap.size) => mwords_any ga n p s M a Y W hF k1 ha (by have := HGA.out; omega))
  have HP := Lib.hid (fun (W : World) (g1 c1 g2 c2 bc : Nat) (Z1 Z2 : List Nat) (k1 : IsW W (some ⟨ga, 0, none⟩) Y) (kb : bm < W.heap.size) (k2 : IsW W (some ⟨g1, 0, none⟩) Z1) (k3 : IsW W (some ⟨g2, 0, none⟩) Z2) (k4 : Z1.length = n) (k5 : Z2.length = n) (k6 : dv B64 Z1 = 1 % M) (k7 : dv B64 Z2 = a % M) (k0 : Bk W bc #[.slice (some ⟨ga, 0, none⟩) n n, .int .i64 (s : Int)] 81) => mpower_any ga n p s M a b g1 g2 c1 c2 bc Y Z1 Z2 W hF k1 (by have := HGA.out; omega) k2 k3 k4 k5 k6 k7 hb' k0)
  have HN := Lib.hid (fun (W : World) (g c : Nat) (Z : List Nat) (k1 : IsW W (some ⟨g, 0, none⟩) Z) (k2 : Z.length = n) => (by
    have := wnatof_any (some ⟨g, 0, none⟩) Z c W k1 (by have := hF.le; omega)
    rw [k2] at this
    exact this : Calls Tryz.prog 58 #[.slice (some ⟨g, 0, none⟩) n c] W (Made W (.string (bs (dv B64 Z))))))
  go_wp2_with fail
  rw [← hbm]
  clear hbm hb0 hYg hgl hgw' HM HC
  go_region_held3 (fun w' => w'.cell? ⟨bm, 0, none⟩ = some (.slice (some ⟨ga, 0, none⟩) n n) ∧ w'.cell? ⟨bm, 1, none⟩ = some (.int .i64 (s : Int)) ∧ Hid (Below w.heap.size w w' ∧ Bk w' bm #[.slice (some ⟨ga, 0, none⟩) n n, .int .i64 (s : Int)] 81 ∧ IsW w' (some ⟨ga, 0, none⟩) Y)) (first | assumption | exact ⟨d0, d1, Lib.hid ⟨hb3.drew, K1.drew, hY3.drew⟩⟩) (first | (go_at_call 34; obtain ⟨q1, q2, hk⟩ := ‹_ ∧ _›; refine (HO.out _).mono ?_; rintro e wo ⟨rfl, hbo⟩; have hSxo : wo.cell? ⟨bm, 0, none⟩ = some (.slice (some ⟨ga, 0, none⟩) n n) ∧ wo.cell? ⟨bm, 1, none⟩ = some (.int .i64 (s : Int)) ∧ Hid (Below w.heap.size w wo ∧ Bk wo bm #[.slice (some ⟨ga, 0, none⟩) n n, .int .i64 (s : Int)] 81 ∧ IsW wo (some ⟨ga, 0, none⟩) Y) := sX_below ⟨q1, q2, hk⟩ hbo; clear q1 q2 hk hbo) | (go_at_call 60; obtain ⟨q1, q2, hk⟩ := ‹_ ∧ _›; (with_reducible refine (HW1.out _ hk.out.2.2 hk.out.2.1.lt).mono ?_); rintro e w1 ⟨g1, c1, Z1, rfl, hl1, hI1, hv1, hg1, hc1, hb1⟩; have hSx1 : w1.cell? ⟨bm, 0, none⟩ = some (.slice (some ⟨ga, 0, none⟩) n n) ∧ w1.cell? ⟨bm, 1, none⟩ = some (.int .i64 (s : Int)) ∧ Hid (Below w.heap.size w w1 ∧ Bk w1 bm #[.slice (some ⟨ga, 0, none⟩) n n, .int .i64 (s : Int)] 81 ∧ IsW w1 (some ⟨ga, 0, none⟩) Y) := sX_below ⟨q1, q2, hk⟩ hb1; clear q1 q2 hk hb1 hg1 hc1) | (go_at_call 60; obtain ⟨q1, q2, hk⟩ := ‹_ ∧ _›; (with_reducible refine (HWa.out _ hk.out.2.2 hk.out.2.1.lt).mono ?_); rintro e wa ⟨g2, c2, Z2, rfl, hl2, hI2, hv2, hg2, hc2, hba⟩; have hSxa : wa.cell? ⟨bm, 0, none⟩ = some (.slice (some ⟨ga, 0, none⟩) n n) ∧ wa.cell? ⟨bm, 1, none⟩ = some (.int .i64 (s : Int)) ∧ Hid (Below w.heap.size w wa ∧ Bk wa bm #[.slice (some ⟨ga, 0, none⟩) n n, .int .i64 (s : Int)] 81 ∧ IsW wa (some ⟨ga, 0, none⟩) Y) := sX_below ⟨q1, q2, hk⟩ hba; replace hI1 := hI1.below hba; clear q1 q2 hk hba hg2 hc2) | (go_at_call 61; obtain ⟨q1, q2, hk⟩ := ‹_ ∧ _›; refine (multiplier_any _ _ _).mono ?_; rintro e wc ⟨rfl, K2, hbc⟩; have hSxc : wc.cell? ⟨bm, 0, none⟩ = some (.slice (some ⟨ga, 0, none⟩) n n) ∧ wc.cell? ⟨bm, 1, none⟩ = some (.int .i64 (s : Int)) ∧ Hid (Below w.heap.size w wc ∧ Bk wc bm #[.slice (some ⟨ga, 0, none⟩) n n, .int .i64 (s : Int)] 81 ∧ IsW wc (some ⟨ga, 0, none⟩) Y) := sX_below ⟨q1, q2, hk⟩ hbc; replace hI1 := hI1.below hbc; replace hI2 := hI2.below hbc; clear q1 q2 hk hbc) | (go_at_call 59; obtain ⟨q1, q2, hk⟩ := ‹_ ∧ _›; refine (HP.out _ g1 c1 g2 c2 _ Z1 Z2 hk.out.2.2 hk.out.2.1.lt hI1 hI2 hl1 hl2 hv1 hv2 K2).mono ?_; rintro e wp ⟨g3, c3, Z3, rfl, hl3, hI3, hv3, hb3⟩; have hSxp : wp.cell? ⟨bm, 0, none⟩ = some (.slice (some ⟨ga, 0, none⟩) n n) ∧ wp.cell? ⟨bm, 1, none⟩ = some (.int .i64 (s : Int)) ∧ Hid (Below w.heap.size w wp ∧ Bk wp bm #[.slice (some ⟨ga, 0, none⟩) n n, .int .i64 (s : Int)] 81 ∧ IsW wp (some ⟨ga, 0, none⟩) Y) := sX_below ⟨q1, q2, hk⟩ hb3; clear q1 q2 hk hb3) | (go_at_call 58; obtain ⟨q1, q2, hk⟩ := ‹_ ∧ _›; refine (HN.out _ g3 c3 Z3 hI3 hl3).mono ?_; rintro e wn ⟨rfl, hbn⟩; have hSxn : wn.cell? ⟨bm, 0, none⟩ = some (.slice (some ⟨ga, 0, none⟩) n n) ∧ wn.cell? ⟨bm, 1, none⟩ = some (.int .i64 (s : Int)) ∧ Hid (Below w.heap.size w wn ∧ Bk wn bm #[.slice (some ⟨ga, 0, none⟩) n n, .int .i64 (s : Int)] 81 ∧ IsW wn (some ⟨ga, 0, none⟩) Y) := sX_below ⟨q1, q2, hk⟩ hbn; clear q1 q2 hk hbn))
  all_goals
    obtain ⟨_, _, hk⟩ := ‹_ ∧ _›
    go_wp2
    go_ret2
    exact ⟨rfl, hk.out.1⟩

end Go.Proofs.YtmiafkbjmkaebaaGreat
