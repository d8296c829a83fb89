/-
  The contract of modular.Mul for canonical arguments.
-/
import Derived.Test.YtmiafkbjmkaebaaGreatModL
namespace Go.Proofs.YtmiafkbjmkaebaaGreat
open Go.RowKit Num

theorem sy_below {w w' w'' : World} {bm bc ga n s : Nat} {Y : List Nat} (h : w'.cell? ⟨bm, 0, none⟩ = some (.slice (some ⟨ga, 0, none⟩) n n) ∧ w'.cell? ⟨bm, 1, none⟩ = some (.int .i64 (s : Int)) ∧ Hid (Below w.heap.size w w' ∧ Bk w' bm #[.slice (some ⟨ga, 0, none⟩) n n, .int .i64 (s : Int)] 81 ∧ Bk w' bc #[.slice (some ⟨ga, 0, none⟩) n n, .int .i64 (s : Int)] 81 ∧ IsW w' (some ⟨ga, 0, none⟩) Y)) (hb : Below w'.heap.size w' w'') : w''.cell? ⟨bm, 0, none⟩ = some (.slice (some ⟨ga, 0, none⟩) n n) ∧ w''.cell? ⟨bm, 1, none⟩ = some (.int .i64 (s : Int)) ∧ Hid (Below w.heap.size w w'' ∧ Bk w'' bm #[.slice (some ⟨ga, 0, none⟩) n n, .int .i64 (s : Int)] 81 ∧ Bk w'' bc #[.slice (some ⟨ga, 0, none⟩) n n, .int .i64 (s : Int)] 81 ∧ IsW w'' (some ⟨ga, 0, none⟩) Y) := by
  obtain ⟨_, _, hk⟩ := h
  obtain ⟨h1, h2, h3, h4⟩ := hk.out
  exact ⟨(h2.below hb).cell 0, (h2.below hb).cell 1, Lib.hid ⟨h1.trans (hb.mono h1.size), h2.below hb, h3.below hb, h4.below hb⟩⟩

set_option maxHeartbeats 1000000 in
set_option maxRecDepth 100000 in
theorem mmul_ok (a b M : Nat) (w : World) (ha : a < Top) (hb' : b < Top) (h0 : M ≠ 0) (hT : M < Top) :
    Calls Tryz.prog 39 #[.string (bs a), .string (bs b), .string (bs M)] w (Made w (.tuple #[.string (bs (a * b % M)), .int .i64 0])) := by
  have HC := Lib.hid (fun (W : World) (g : Nat) (h1 : W.cell? ⟨g, 0, none⟩ = some (.string (bs a))) (h2 : W.cell? ⟨g, 1, none⟩ = some (.string (bs b))) (h3 : g < W.heap.size) => mcheck_ok M 2 (fun i => if i = 0 then a else b) g W h0 hT (by omega) (fun i _ => by split <;> assumption) (fun i hi => by
    rcases (show i = 0 ∨ i = 1 by omega) with rfl | rfl
    · exact h1
    · exact h2) h3)
  have HM := Lib.hid (fun W => modulusof_any M W h0 hT)
  go_enter Tryz.func39, Tryz.ntmps39
  go_wp2_with fail
  have K0 := Bk.new w #[.string (bs a), .string (bs b)] 22
  refine (HC.out _ _ (K0.cell 0) (K0.cell 1) K0.lt).mono ?_
  rintro e w' ⟨rfl, rfl⟩
  go_wp2_with fail
  refine (HM.out _).mono ?_
  rintro e w2 ⟨ga, n, p, s, Y, rfl, hF, hgw, hYg, hb2⟩
  have hb0 : Below w.heap.size w w2 := ((Below.refl _ _).alloc (Nat.le_refl _) _).trans (hb2.mono (by simp))
  have hgl := hYg.lt
  have hgw' : w.heap.size ≤ ga := by simp at hgw; omega
  clear hb2 hgw K0
  obtain ⟨bm, hbm⟩ : ∃ x, x = w2.heap.size := ⟨_, rfl⟩
  have K1 : Bk (w2.alloc (.cells #[.slice (some ⟨ga, 0, none⟩) n n, .int .i64 (s : Int)] 81)) bm #[.slice (some ⟨ga, 0, none⟩) n n, .int .i64 (s : Int)] 81 := by rw [hbm]; exact Bk.new _ _ _
  have hb3 : Below w.heap.size w (w2.alloc (.cells #[.slice (some ⟨ga, 0, none⟩) n n, .int .i64 (s : Int)] 81)) := hb0.alloc hb0.size _
  have hY3 : IsW (w2.alloc (.cells #[.slice (some ⟨ga, 0, none⟩) n n, .int .i64 (s : Int)] 81)) (some ⟨ga, 0, none⟩) Y := (IsW.of_wg hYg hF.sm).below ((Below.refl _ _).alloc (Nat.le_refl _) _)
  go_wp2_with fail
  rw [← hbm]
  refine (multiplier_any _ _ _).mono ?_
  rintro e w4 ⟨rfl, K2, hb4⟩
  obtain ⟨bc, hbc⟩ : ∃ x, x = (w2.alloc (.cells #[.slice (some ⟨ga, 0, none⟩) n n, .int .i64 (s : Int)] 81)).heap.size := ⟨_, rfl⟩
  rw [← hbc] at K2 ⊢
  replace K1 := K1.below hb4
  have hY4 := hY3.below hb4
  have hb := hb3.trans (hb4.mono hb3.size)
  have hgl4 : ga < w4.heap.size := by have := hb4.size; rw [← hbc] at this; simp at hbc; omega
  have d0 := K1.cell 0
  have d1 := K1.cell 1
  have l1 := K1.lt
  have HBC := Lib.hid (show bm < bc from by simp at hbc; omega)
  have HGA := Lib.hid (And.intro hgl (show ga < bm from by omega))
  have HWa := Lib.hid (fun (W : World) (k1 : IsW W (some ⟨ga, 0, none⟩) Y) (k2 : bm < W.heap.size) => mwords_any ga n p s M a Y W hF k1 ha (by have := HGA.out.2; omega))
  have HWb := Lib.hid (fun (W : World) (k1 : IsW W (some ⟨ga, 0, none⟩) Y) (k2 : bm < W.heap.size) => mwords_any ga n p s M b Y W hF k1 hb' (by have := HGA.out.2; omega))
  have HT := Lib.hid (fun (W : World) (g1 c1 g2 c2 : Nat) (Z1 Z2 : List Nat) (k1 : IsW W (some ⟨ga, 0, none⟩) Y) (k0 : Bk W bc #[.slice (some ⟨ga, 0, none⟩) n n, .int .i64 (s : Int)] 81) (k2 : IsW W (some ⟨g1, 0, none⟩) Z1) (k3 : IsW W (some ⟨g2, 0, none⟩) Z2) (k4 : Z1.length = n) (k5 : Z2.length = n) => mtimes_any ga n p s M g1 g2 c1 c2 bc Y Z1 Z2 W hF k1 (by
    have := HGA.out.2
    have := k0.lt
    have := HBC.out
    omega) k2 k3 k4 k5 k0)
  have HN := Lib.hid (fun (W : World) (g c : Nat) (Z : List Nat) (k1 : IsW W (some ⟨g, 0, none⟩) Z) (k2 : Z.length = n) => (by
    have := wnatof_any (some ⟨g, 0, none⟩) Z c W k1 (by have := hF.le; omega)
    rw [k2] at this
    exact this : Calls Tryz.prog 58 #[.slice (some ⟨g, 0, none⟩) n c] W (Made W (.string (bs (dv B64 Z))))))
  clear hbm hbc hb0 hb3 hY3 hYg hb4 hgl hgw' HM HC
  go_wp2_with fail
  go_region_held3 (fun w' => w'.cell? ⟨bm, 0, none⟩ = some (.slice (some ⟨ga, 0, none⟩) n n) ∧ w'.cell? ⟨bm, 1, none⟩ = some (.int .i64 (s : Int)) ∧ Hid (Below w.heap.size w w' ∧ Bk w' bm #[.slice (some ⟨ga, 0, none⟩) n n, .int .i64 (s : Int)] 81 ∧ Bk w' bc #[.slice (some ⟨ga, 0, none⟩) n n, .int .i64 (s : Int)] 81 ∧ IsW w' (some ⟨ga, 0, none⟩) Y)) (first | assumption | exact ⟨d0, d1, Lib.hid ⟨hb.drew, K1.drew, K2.drew, hY4.drew⟩⟩) (first | (go_at_call 60; obtain ⟨q1, q2, hk⟩ := ‹_ ∧ _›; (with_reducible refine (HWa.out _ hk.out.2.2.2 hk.out.2.1.lt).mono ?_); rintro e wa ⟨ga', ca, Za, rfl, hla, hIa, hva, hga, hcna, hba⟩; have hSxa : wa.cell? ⟨bm, 0, none⟩ = some (.slice (some ⟨ga, 0, none⟩) n n) ∧ wa.cell? ⟨bm, 1, none⟩ = some (.int .i64 (s : Int)) ∧ Hid (Below w.heap.size w wa ∧ Bk wa bm #[.slice (some ⟨ga, 0, none⟩) n n, .int .i64 (s : Int)] 81 ∧ Bk wa bc #[.slice (some ⟨ga, 0, none⟩) n n, .int .i64 (s : Int)] 81 ∧ IsW wa (some ⟨ga, 0, none⟩) Y) := sy_below ⟨q1, q2, hk⟩ hba; (try replace hIb := hIb.below hba); clear q1 q2 hk hba) | (go_at_call 60; obtain ⟨q1, q2, hk⟩ := ‹_ ∧ _›; (with_reducible refine (HWb.out _ hk.out.2.2.2 hk.out.2.1.lt).mono ?_); rintro e wb ⟨gb', cb, Zb, rfl, hlb, hIb, hvb, hgb, hcnb, hbb⟩; have hSxb : wb.cell? ⟨bm, 0, none⟩ = some (.slice (some ⟨ga, 0, none⟩) n n) ∧ wb.cell? ⟨bm, 1, none⟩ = some (.int .i64 (s : Int)) ∧ Hid (Below w.heap.size w wb ∧ Bk wb bm #[.slice (some ⟨ga, 0, none⟩) n n, .int .i64 (s : Int)] 81 ∧ Bk wb bc #[.slice (some ⟨ga, 0, none⟩) n n, .int .i64 (s : Int)] 81 ∧ IsW wb (some ⟨ga, 0, none⟩) Y) := sy_below ⟨q1, q2, hk⟩ hbb; (try replace hIa := hIa.below hbb); clear q1 q2 hk hbb) | (go_at_call 89; obtain ⟨q1, q2, hk⟩ := ‹_ ∧ _›; refine (HT.out _ ga' ca gb' cb Za Zb hk.out.2.2.2 hk.out.2.2.1 hIa hIb hla hlb).mono ?_; rintro e wt ⟨gt, ct, Zt, rfl, hlt, hIt, hvt, hgt, hcnt, hbt⟩; have hSxt : wt.cell? ⟨bm, 0, none⟩ = some (.slice (some ⟨ga, 0, none⟩) n n) ∧ wt.cell? ⟨bm, 1, none⟩ = some (.int .i64 (s : Int)) ∧ Hid (Below w.heap.size w wt ∧ Bk wt bm #[.slice (some ⟨ga, 0, none⟩) n n, .int .i64 (s : Int)] 81 ∧ Bk wt bc #[.slice (some ⟨ga, 0, none⟩) n n, .int .i64 (s : Int)] 81 ∧ IsW wt (some ⟨ga, 0, none⟩) Y) := sy_below ⟨q1, q2, hk⟩ hbt; clear q1 q2 hk hbt) | (go_at_call 58; obtain ⟨q1, q2, hk⟩ := ‹_ ∧ _›; refine (HN.out _ gt ct Zt hIt hlt).mono ?_; rintro e wn ⟨rfl, hbn⟩; have hSxn : wn.cell? ⟨bm, 0, none⟩ = some (.slice (some ⟨ga, 0, none⟩) n n) ∧ wn.cell? ⟨bm, 1, none⟩ = some (.int .i64 (s : Int)) ∧ Hid (Below w.heap.size w wn ∧ Bk wn bm #[.slice (some ⟨ga, 0, none⟩) n n, .int .i64 (s : Int)] 81 ∧ Bk wn bc #[.slice (some ⟨ga, 0, none⟩) n n, .int .i64 (s : Int)] 81 ∧ IsW wn (some ⟨ga, 0, none⟩) Y) := sy_below ⟨q1, q2, hk⟩ hbn; clear q1 q2 hk hbn))
  all_goals
    obtain ⟨_, _, hk⟩ := ‹_ ∧ _›
    go_wp2
    go_ret2
    exact ⟨rfl, hk.out.1⟩

end Go.Proofs.YtmiafkbjmkaebaaGreat
