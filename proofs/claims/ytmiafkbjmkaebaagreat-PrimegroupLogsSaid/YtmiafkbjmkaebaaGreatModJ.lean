/-
  The contracts of modular.modulusOf and of the method words.
-/
import Derived.Test.YtmiafkbjmkaebaaGreatModH
import Derived.Test.YtmiafkbjmkaebaaGreatModI
import Derived.Deep.RegionHeld3
namespace Go.Proofs.YtmiafkbjmkaebaaGreat
open Go.RowKit Num

/-- The words Y, shifted by s, of the modulus M. -/
structure ModF (n p s M : Nat) (Y : List Nat) : Prop where
  np : n = p + 1
  le : n ≤ 16
  sm : SmallW Y
  len : Y.length = n
  val : dv B64 Y = M * 2 ^ s
  sh : s < 64
  top : 9223372036854775808 ≤ Y.getD p 0
  ge : B64 ^ p ≤ M

theorem wlen_facts {M : Nat} (h0 : M ≠ 0) (hT : M < Top) : ∃ p, wlen M = p + 1 ∧ p ≤ 15 ∧ B64 ^ p ≤ M ∧ M < B64 ^ (p + 1) := by
  have h1 : 0 < (bs M).size := by
    rcases Nat.eq_zero_or_pos (bs M).size with h | h
    · have := (bs_le (n := M) (k := 0)).1 (by omega)
      simp at this; omega
    · exact h
  have h2 : (bs M).size ≤ 128 := by rw [bs_le]; exact hT
  have hB : B64 = 256 ^ 8 := by decide
  refine ⟨wlen M - 1, by unfold wlen; omega, by unfold wlen; omega, ?_, ?_⟩
  · rw [hB, ← Nat.pow_mul]
    rcases Nat.lt_or_ge M (256 ^ (8 * (wlen M - 1))) with h | h
    · have := (bs_le (n := M)).2 h
      unfold wlen at this
      omega
    · exact h
  · rw [hB, ← Nat.pow_mul]
    exact (bs_le (n := M)).1 (by unfold wlen; omega)
theorem shift_facts {x s : Nat} (h0 : x ≠ 0) (hx : x < 18446744073709551616) (hs : s = 64 - Lib.bitLen x) : s < 64 ∧ Lib.bitLen x ≤ 64 ∧ 9223372036854775808 ≤ x * 2 ^ s ∧ (x + 1) * 2 ^ s ≤ 18446744073709551616 := by
  obtain ⟨h1, h2, h3⟩ := bitLen_pow 64 x (by decide) hx h0
  have h4 : Lib.bitLen x ≤ 64 := Lib.bitLen_le x 64 (by decide) hx
  generalize Lib.bitLen x = b at *
  have e1 : 2 ^ (b - 1) * 2 ^ s = 9223372036854775808 := by
    rw [← Nat.pow_add, show b - 1 + s = 63 from by omega]
  have e2 : 2 ^ b * 2 ^ s = 18446744073709551616 := by
    rw [← Nat.pow_add, show b + s = 64 from by omega]
  refine ⟨by omega, h4, ?_, ?_⟩
  · rw [← e1]; exact Nat.mul_le_mul_right _ h1
  · rw [← e2]; exact Nat.mul_le_mul_right _ h2
theorem top_facts {X : List Nat} {p s M : Nat} (hl : X.length = p + 1) (hX : SmallW X) (hv : dv B64 X = M) (hM : B64 ^ p ≤ M) (hs : s = 64 - Lib.bitLen (X.getD p 0)) :
    X.getD p 0 ≠ 0 ∧ s < 64 ∧ Lib.bitLen (X.getD p 0) ≤ 64 ∧ M * 2 ^ s < B64 ^ (p + 1) ∧ (∀ Y : List Nat, Y.length = p + 1 → SmallW Y → dv B64 Y = M * 2 ^ s → 9223372036854775808 ≤ Y.getD p 0) := by
  obtain ⟨l, hl1, hl2⟩ := wdv_high1 X p hl hX
  have hx0 : X.getD p 0 ≠ 0 := by
    intro h; rw [h, Nat.zero_mul] at hl2; omega
  have hx64 : X.getD p 0 < 18446744073709551616 := hX.at p
  obtain ⟨f1, f2, f3, f4⟩ := shift_facts hx0 hx64 hs
  refine ⟨hx0, f1, f2, ?_, ?_⟩
  · rw [← hv, hl2]
    generalize X.getD p 0 = x at *
    have h1 : x * B64 ^ p + l < (x + 1) * B64 ^ p := by rw [Nat.add_mul]; omega
    have h2 : (x * B64 ^ p + l) * 2 ^ s < (x + 1) * B64 ^ p * 2 ^ s := Nat.mul_lt_mul_of_pos_right h1 (Nat.pow_pos (by decide))
    have h3 : (x + 1) * B64 ^ p * 2 ^ s ≤ B64 ^ (p + 1) := by
      rw [Nat.mul_right_comm, Nat.pow_succ, Nat.mul_comm (B64 ^ p)]
      exact Nat.mul_le_mul_right _ f4
    omega
  · intro Y hYl hYs hYv
    obtain ⟨m, hm1, hm2⟩ := wdv_high1 Y p hYl hYs
    rw [hYv, ← hv, hl2] at hm2
    generalize X.getD p 0 = x at *
    generalize Y.getD p 0 = y at *
    apply Decidable.byContradiction
    intro hn
    have h1 : x * B64 ^ p * 2 ^ s ≤ (x * B64 ^ p + l) * 2 ^ s := Nat.mul_le_mul_right _ (Nat.le_add_right _ _)
    have h2 : 9223372036854775808 * B64 ^ p ≤ x * B64 ^ p * 2 ^ s := by
      rw [Nat.mul_right_comm]; exact Nat.mul_le_mul_right _ f3
    have h3 : (y + 1) * B64 ^ p ≤ 9223372036854775808 * B64 ^ p := Nat.mul_le_mul_right _ (by omega)
    rw [Nat.add_mul] at h3
    omega

/-- modulusOf makes a modulus. -/
def MadeM (w : World) (M : Nat) (e : Ending) (w' : World) : Prop :=
  ∃ (ga n p s : Nat) (Y : List Nat), e = .returned (.agg #[.slice (some ⟨ga, 0, none⟩) n n, .int .i64 (s : Int)]) ∧ ModF n p s M Y ∧ w.heap.size ≤ ga ∧ Wg w' ga Y ∧ Below w.heap.size w w'

set_option maxHeartbeats 1000000 in
set_option maxRecDepth 100000 in
theorem modulusof_any (M : Nat) (w : World) (h0 : M ≠ 0) (hT : M < Top) : Calls Tryz.prog 57 #[.string (bs M)] w (MadeM w M) := by
  obtain ⟨p, hp1, hp2, hp3, hp4⟩ := wlen_facts h0 hT
  have CW : ∀ W, Calls Tryz.prog 84 #[.string (bs M), .int .i64 0] W (MadeW W (p + 1) M) := fun W => by
    have := wordsof_any M 0 W hT (by omega)
    rw [hp1, Nat.max_eq_right (by omega)] at this
    exact this
  go_enter Tryz.func57, Tryz.ntmps57
  go_wp2_with fail
  refine (CW _).mono ?_
  rintro e w1 ⟨X, rfl, hXl, hXs, hXg, hXv, hb1⟩
  have hbw : Below w.heap.size w (w.alloc (.cells #[.slice none 0 0, .int .i64 0] 81)) := (Below.refl _ _).alloc (Nat.le_refl _) _
  have K0 := (Bk.new w #[.slice none 0 0, .int .i64 0] 81).below hb1
  have hb := hbw.trans (hb1.mono hbw.size)
  rw [show (w.alloc (.cells #[.slice none 0 0, .int .i64 0] 81)).heap.size = w.heap.size + 1 from by simp] at hXg ⊢
  clear hb1 hbw
  obtain ⟨x, hx⟩ : ∃ x, x = X.getD p 0 := ⟨_, rfl⟩
  obtain ⟨s, hs⟩ : ∃ s, s = 64 - Lib.bitLen (X.getD p 0) := ⟨_, rfl⟩
  obtain ⟨t0, t1, t2, t3, t4⟩ := top_facts hXl hXs hXv hp3 hs
  have hcx := hXg.cell p (by omega)
  rw [← hx] at hcx
  have hx64 : x < 18446744073709551616 := by rw [hx]; exact hXs.at p
  have CL : ∀ W, Calls Tryz.prog 85 #[.int .u64 (x : Int)] W (Same W (.int .i64 (s : Int))) := fun W => by
    have := lz64_any x hx64 W
    rw [show (64 - (Lib.bitLen x : Int)) = (s : Int) from by rw [hs, ← hx]; rw [← hx] at t2; omega] at this
    exact this
  have CLH := Lib.hid CL
  obtain ⟨n, hn⟩ : ∃ n, n = p + 1 := ⟨_, rfl⟩
  rw [hXl, ← hn]
  have HW := Lib.hid (fun (W : World) (h : Wg W (w.heap.size + 1) X) => wshl_any (w.heap.size + 1) 0 n n s [] [] X W (Wv.of_wg h) rfl hXs (by rw [hXl, hn]) t1 (by omega) (by rw [hXv, hn]; exact t3))
  have HF := Lib.hid (fun (Y : List Nat) (h1 : Y.length = n) (h2 : SmallW Y) (h3 : dv B64 Y = dv B64 X * 2 ^ s) => (⟨hn, by omega, h2, h1, by rw [h3, hXv], t1, t4 Y (by rw [h1, hn]) h2 (by rw [h3, hXv]), hp3⟩ : ModF n p s M Y))
  have c0 := K0.cell 0
  have c1 := K0.cell 1
  have f0 := K0.frozen 0
  have f1 := K0.frozen 1
  have l0 := K0.lt
  have i0 : p < n := by omega
  have i1 : 0 < n := by omega
  have i2 : (n : Int) - 1 = (p : Int) := by omega
  have i3 : n ≤ 16 := by omega
  clear hs hx t0 t1 t2 t3 t4 hx64 hXl hXv CL h0 hT hp1 hp2 hp3 hp4 CW hn
  go_wp2_with (go_at_call 85; refine (CLH.out _).mono ?_; rintro e w' ⟨rfl, rfl⟩)
  refine (HW.out _ hXg).mono ?_
  rintro e w2 ⟨Y, rfl, hYl, hYs, hYg, hYv, hgw⟩
  have HM := Lib.hid (HF.out Y hYl hYs hYv)
  have K2 := K0.kept hgw (fun e => by injection e with e; omega)
  have HB := Lib.hid (Below.trans hb ((Below.refl _ _).grown hgw (by have := hb.size; omega) (fun g hg => by injection hg with hg; omega) : Below w.heap.size w1 w2))
  clear hYl hYs hYv hgw hb c0 c1 f0 f1 K0 hXg hcx HF
  have c0 := K2.cell 0
  have c1 := K2.cell 1
  have f0 := K2.frozen 0
  have f1 := K2.frozen 1
  have l0 := K2.lt
  go_wp2_with fail
  have K3 := (K2.set 0 (.slice (some ⟨w.heap.size + 1, 0, none⟩) n n)).set 1 (.int .i64 (s : Int))
  have d0 := K3.cell 0
  have d1 := K3.cell 1
  have hg3 : Wg w2 (w.heap.size + 1) Y := by unfold Wv at hYg; unfold Wg; simpa using hYg
  refine bodyPost_ret (v := .agg #[.slice (some ⟨w.heap.size + 1, 0, none⟩) n n, .int .i64 (s : Int)]) (by simp [results, Tryz.results57, go_sem, d0, d1]) rfl ⟨w.heap.size + 1, n, p, s, Y, rfl, HM.out, by omega, (hg3.far (p := ⟨w.heap.size, 0, none⟩) (by simp) _).far (p := ⟨w.heap.size, 1, none⟩) (by simp) _, (HB.out.setCell (Nat.le_refl _) _).setCell (Nat.le_refl _) _⟩

end Go.Proofs.YtmiafkbjmkaebaaGreat
