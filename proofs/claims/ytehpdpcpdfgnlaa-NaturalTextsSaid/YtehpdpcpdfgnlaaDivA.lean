/-
  The contract of natural.guessDigit.
-/
import Derived.Test.YtehpdpcpdfgnlaaKnuth
import Derived.RegionTactic
import Derived.BigRegion
namespace Go.Proofs.Ytehpdpcpdfgnlaa
open Go.RowKit Num

/-- The guess: the digit of the quotient, or one more. -/
def Guess (w : World) (R Y : List Nat) (e : Ending) (w' : World) : Prop :=
  ∃ g : Nat, e = .returned (.int .u64 g) ∧ dv B32 R / dv B32 Y ≤ g ∧ g ≤ dv B32 R / dv B32 Y + 1 ∧ g < 4294967296 ∧ Below w.heap.size w w'

set_option maxHeartbeats 1000000 in
set_option maxRecDepth 100000 in
theorem guess_any (A B : Option Addr) (R Y : List Nat) (n cr cy : Nat) (w : World) (hR : IsD w A R) (hY : IsD w B Y) (hRl : R.length = n + 3) (hYl : Y.length = n + 2) (hn : n ≤ 1000)
    (hlt : dv B32 R < B32 * dv B32 Y) (hv : 0 < Y.getD (n + 1) 0) :
    Calls Try.prog 110 #[.slice A (n + 3) cr, .slice B (n + 2) cy] w (Guess w R Y) := by
  obtain ⟨gr, orr, rfl, hgr, hcr⟩ := hR.2 (by omega)
  obtain ⟨gy, oy, rfl, hgy, hcy⟩ := hY.2 (by omega)
  have k0 := hcr n (by omega)
  have k1 := hcr (n + 1) (by omega)
  have k2 := hcr (n + 2) (by omega)
  have j0 := hcy n (by omega)
  have j1 := hcy (n + 1) (by omega)
  have s0 := hR.1.at n
  have s1 := hR.1.at (n + 1)
  have s2 := hR.1.at (n + 2)
  have t0 := hY.1.at n
  have t1 := hY.1.at (n + 1)
  have hst := guess_start hRl hYl hR.1 hY.1 hv
  have htp := guess_top hRl hYl hR.1 hY.1 hlt
  have hnx := fun (g l : Nat) => guess_next (g := g) (left := l) hRl hYl hR.1 hY.1 hlt
  have hen := fun (g l : Nat) => guess_end (g := g) (left := l) hRl hYl hR.1 hY.1 hv
  generalize R.getD n 0 = r0 at *
  generalize R.getD (n + 1) 0 = r1 at *
  generalize R.getD (n + 2) 0 = r2 at *
  generalize Y.getD n 0 = y0 at *
  generalize Y.getD (n + 1) 0 = v at *
  unfold B32 at s0 s1 s2 t0 t1
  have HST := Lib.hid hst
  have HNX := Lib.hid hnx
  have HEN := Lib.hid hen
  clear hst hnx hen hcr hcy hlt hR hY hRl hYl
  obtain ⟨top, htop⟩ : ∃ top, top = r2 * 4294967296 + r1 := ⟨_, rfl⟩
  have hor : bits BinOp.or IntKind.u64 ((r2 : Int) * 4294967296) (r1 : Int) = (top : Int) := by
    rw [show ((r2 : Int) * 4294967296) = ((r2 * 4294967296 : Nat) : Int) from by omega, or_join 32 _ _ (by omega) s1 (by omega), htop]
  obtain ⟨g0, hg0⟩ : ∃ g0, g0 = top / v := ⟨_, rfl⟩
  obtain ⟨l0, hl0⟩ : ∃ l0, l0 = top % v := ⟨_, rfl⟩
  have hdiv : (top : Int) / (v : Int) = (g0 : Int) := by rw [hg0]; rfl
  have hmod : (top : Int) % (v : Int) = (l0 : Int) := by rw [hl0]; rfl
  have hgl : g0 * v + l0 = top := by rw [hg0, hl0, Nat.mul_comm]; exact Nat.div_add_mod top v
  have hl1 : l0 < v := by rw [hl0]; exact Nat.mod_lt _ hv
  have htop64 : top ≤ 18446744073709551615 := by omega
  have hgt : g0 ≤ top := by rw [hg0]; exact Nat.div_le_self _ _
  have HTOP := Lib.hid htop
  have HG0 := Lib.hid hg0
  have HGL := Lib.hid hgl
  have HMOD := Lib.hid hmod
  clear htop hg0 hl0 hgl hmod
  go_enter Try.func110, Try.ntmps110
  go_wp2
  go_region
  go_wp2
  go_region
  go_wp2
  have HTB := Lib.hid (show top ≤ v * 4294967296 + 4294967295 by have := HTOP.out; omega)
  go_loopw [7, 8] (fun a b wr => ∃ g l : Nat, a = .int .u64 g ∧ b = .int .u64 l ∧ Hid (g * v + l = top) ∧ Hid (dv B32 R / dv B32 Y ≤ g) ∧ l < 4294967296 ∧ g ≤ 18446744073709551615 ∧ Below w.heap.size w wr) (fun a _ _ => (intOf a).toNat)
  case atStart => exact ⟨g0, l0, rfl, val_int HMOD.out, HGL, Lib.hid (by rw [HG0.out, HTOP.out]; exact HST.out), by omega, by omega, (Below.refl _ _).drew.drew⟩
  case round =>
    obtain ⟨g, l, rfl, rfl, HGL, HQ, hl, hg64, hbel⟩ := hrel
    have k0' := (hbel.cell (p := ⟨gr, orr + n, none⟩) hgr).trans k0
    have j0' := (hbel.cell (p := ⟨gy, oy + n, none⟩) hgy).trans j0
    have j1' := (hbel.cell (p := ⟨gy, oy + (n + 1), none⟩) hgy).trans j1
    by_cases hbig : 4294967295 < g
    · have COND : B32 ≤ g ∨ l * B32 + r0 < g * y0 := .inl hbig
      have hd : decide ((4294967295 : Int) < (g : Int)) = true := by simp; omega
      obtain ⟨hq1, hq2⟩ := HNX.out g l HQ.out (by rw [HGL.out, HTOP.out]; rfl) COND
      have HQ1 := Lib.hid (show dv B32 R / dv B32 Y ≤ g - 1 from hq1)
      have HGL' : Hid ((g - 1) * v + (l + v) = top) := Lib.hid (by
        obtain ⟨g', rfl⟩ : ∃ g', g = g' + 1 := ⟨g - 1, by omega⟩
        have := HGL.out; rw [Nat.succ_mul] at this; rw [Nat.add_sub_cancel]; omega)
      clear hq1 COND
      by_cases hbr : 4294967295 < l + v
      · have hgv : g - 1 < 4294967296 := by
          have h1 := HGL'.out
          apply Decidable.byContradiction
          intro hc
          have h2 : 4294967296 * v ≤ (g - 1) * v := Nat.mul_le_mul_right _ (by omega)
          have h3 := HTB.out
          omega
        have HC : Hid ((g - 1) * y0 ≤ (l + v) * B32 + r0) := Lib.hid (by
          have h1 : (g - 1) * y0 ≤ 4294967295 * 4294967295 := Nat.mul_le_mul (by omega) (by omega)
          have h2 : 4294967296 * B32 ≤ (l + v) * B32 := Nat.mul_le_mul_right _ (by omega)
          unfold B32 at *
          omega)
        go_wp2
        go_quiet (fail)
        go_wp2
        go_ret
        exact ⟨g - 1, ret_int (by omega), HQ1.out, HEN.out (g - 1) (l + v) (by rw [HGL'.out, HTOP.out]; rfl) hgv HC.out, hgv, below_draws hbel _⟩
      · have hbr2 : l + v < 4294967296 := by omega
        go_wp2
        go_quiet (fail)
        go_wp2
        go_roundw
        case rel => exact ⟨g - 1, l + v, val_int (by omega), by go_num, HGL', HQ1, hbr2, by omega, below_draws hbel _⟩
        case measure => simp only [intOf]; omega
    · have hd : decide ((4294967295 : Int) < (g : Int)) = false := by simp; omega
      obtain ⟨p, hp⟩ : ∃ p, p = g * y0 := ⟨_, rfl⟩
      have hpm : (g : Int) * (y0 : Int) = (p : Int) := by rw [hp]; simp
      have hp64 : p ≤ 18446744065119617025 := by
        rw [hp]; exact Nat.mul_le_mul (show g ≤ 4294967295 by omega) (show y0 ≤ 4294967295 by omega)
      obtain ⟨t, ht⟩ : ∃ t, t = l * 4294967296 + r0 := ⟨_, rfl⟩
      have hor : bits BinOp.or IntKind.u64 ((l : Int) * 4294967296) (r0 : Int) = (t : Int) := by
        rw [show ((l : Int) * 4294967296) = ((l * 4294967296 : Nat) : Int) from by omega, or_join 32 _ _ (by omega) s0 (by omega), ht]
      have ht64 : t ≤ 18446744073709551615 := by omega
      have HP := Lib.hid hp
      have HT := Lib.hid ht
      by_cases hpt : t < p
      · have hd2 : decide ((t : Int) < (p : Int)) = true := by simp; omega
        have hd3 : decide (t < p) = true := by simpa using hpt
        have COND : B32 ≤ g ∨ l * B32 + r0 < g * y0 := .inr (by rw [← HP.out]; have := HT.out; unfold B32; omega)
        clear hp ht
        obtain ⟨hq1, hq2⟩ := HNX.out g l HQ.out (by rw [HGL.out, HTOP.out]; rfl) COND
        have HQ1 := Lib.hid (show dv B32 R / dv B32 Y ≤ g - 1 from hq1)
        have HGL' : Hid ((g - 1) * v + (l + v) = top) := Lib.hid (by
          obtain ⟨g', rfl⟩ : ∃ g', g = g' + 1 := ⟨g - 1, by omega⟩
          have := HGL.out; rw [Nat.succ_mul] at this; rw [Nat.add_sub_cancel]; omega)
        clear hq1 COND
        by_cases hbr : 4294967295 < l + v
        · have hgv : g - 1 < 4294967296 := by
            have h1 := HGL'.out
            apply Decidable.byContradiction
            intro hc
            have h2 : 4294967296 * v ≤ (g - 1) * v := Nat.mul_le_mul_right _ (by omega)
            have h3 := HTB.out
            omega
          have HC : Hid ((g - 1) * y0 ≤ (l + v) * B32 + r0) := Lib.hid (by
            have h1 : (g - 1) * y0 ≤ 4294967295 * 4294967295 := Nat.mul_le_mul (by omega) (by omega)
            have h2 : 4294967296 * B32 ≤ (l + v) * B32 := Nat.mul_le_mul_right _ (by omega)
            unfold B32 at *
            omega)
          go_wp2
          go_quiet (fail)
          go_wp2
          go_ret
          exact ⟨g - 1, ret_int (by omega), HQ1.out, HEN.out (g - 1) (l + v) (by rw [HGL'.out, HTOP.out]; rfl) hgv HC.out, hgv, below_draws hbel _⟩
        · have hbr2 : l + v < 4294967296 := by omega
          go_wp2
          go_quiet (fail)
          go_wp2
          go_roundw
          case rel => exact ⟨g - 1, l + v, val_int (by omega), by go_num, HGL', HQ1, hbr2, by omega, below_draws hbel _⟩
          case measure => simp only [intOf]; omega
      · have hd2 : decide ((t : Int) < (p : Int)) = false := by simp; omega
        have hd3 : decide (t < p) = false := by simpa using hpt
        have HC : Hid (g * y0 ≤ l * B32 + r0) := Lib.hid (by rw [← HP.out]; have := HT.out; unfold B32; omega)
        have hgv : g < 4294967296 := by omega
        clear hp ht
        go_wp2
        go_quiet (fail)
        go_wp2
        go_ret
        exact ⟨g, rfl, HQ.out, HEN.out g l (by rw [HGL.out, HTOP.out]; rfl) hgv HC.out, hgv, below_draws hbel _⟩
end Go.Proofs.Ytehpdpcpdfgnlaa
