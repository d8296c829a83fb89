/-
  The contracts of natural.addBack and natural.divideStep.
-/
import Derived.Test.YtehpdpcpdfgnlaaDivB
namespace Go.Proofs.Ytehpdpcpdfgnlaa
open Go.RowKit Num

theorem back_last {R Y rs : List Nat} {c n : Nat} (hrl : rs.length = n) (hRl : R.length = n) (hYl : Y.length ≤ n) (hs : Small rs) (h : dv B32 (rs.take n) + B32 ^ n * c = dv B32 (R.take n) + dv B32 (Y.take n)) :
    dv B32 rs + B32 ^ n * c = dv B32 R + dv B32 Y ∧ dv B32 rs < B32 ^ n := by
  rw [dv_take_all _ _ _ (by omega), dv_take_all _ _ _ hYl, dv_take_all _ _ _ (by omega)] at h
  have := hs.dv_lt
  rw [hrl] at this
  exact ⟨h, this⟩

/-- addBack: the sum, modulo the numbers of as many digits. -/
def AddedBack (w : World) (g : Nat) (P R S Y : List Nat) (e : Ending) (w' : World) : Prop :=
  ∃ (c : Nat) (rs : List Nat), e = .returned (.tuple #[]) ∧ Turned w g P S R.length rs w' ∧ dv B32 rs + B32 ^ R.length * c = dv B32 R + dv B32 Y ∧ dv B32 rs < B32 ^ R.length

set_option maxHeartbeats 1000000 in
set_option maxRecDepth 100000 in
theorem back_any (g : Nat) (P R S Y : List Nat) (A : Option Addr) (n m cr cy : Nat) (w : World) (hg : Dg w g (P ++ R ++ S)) (hRs : Small R) (hY : IsD w A Y) (hA : Apart A g) (hRl : R.length = n) (hYl : Y.length = m) (hm0 : 0 < m) (hmn : m < n) (hn : n ≤ 1000) :
    Calls Try.prog 112 #[.slice (some ⟨g, P.length, none⟩) n cr, .slice A m cy] w (AddedBack w g P R S Y) := by
  obtain ⟨ga, oa, rfl, hga, hca⟩ := hY.2 (by omega)
  have hAg : ga ≠ g := hA ⟨ga, oa, none⟩ rfl
  have HRl := Lib.hid hRl
  have HYl := Lib.hid hYl
  have HCA := Lib.hid hca
  have HG := Lib.hid hg
  clear hRl hYl hca hA
  go_enter Try.func112, Try.ntmps112
  go_wp2
  go_loopw [4, 8] (fun a i wr => ∃ (k c : Nat) (rs : List Nat), k ≤ n ∧ i = .int .i64 k ∧ a = .int .u64 c ∧ c ≤ 1 ∧ Hid (rs.length = n) ∧ Small rs ∧ Dg wr g (P ++ rs ++ S) ∧ Hid (∀ i, k ≤ i → rs.getD i 0 = R.getD i 0) ∧
      Hid (dv B32 (rs.take k) + B32 ^ k * c = dv B32 (R.take k) + dv B32 (Y.take k)) ∧ w.grownBy wr (some g)) (fun _ i _ => n - (intOf i).toNat)
  case atStart => exact ⟨0, 0, R, Nat.zero_le _, rfl, rfl, by omega, HRl, hRs, HG.out, Lib.hid (fun _ _ => rfl), Lib.hid (by simp [dv]), World.grownBy.refl _ _⟩
  case round =>
    obtain ⟨k, c, rs, hk, rfl, rfl, hc, HL, hrs, hdg, HSM, HE, hgr⟩ := hrel
    by_cases hlt : k < n
    · have hkl : k < rs.length := by have := HL.out; omega
      have hcr := hdg.cell (P.length + k) (by simp; omega)
      rw [getD_mid P rs S k hkl, HSM.out k (Nat.le_refl _)] at hcr
      have hfr := hdg.frozen (P.length + k)
      obtain ⟨x, hx⟩ : ∃ x, x = R.getD k 0 := ⟨_, rfl⟩
      have hx32 : x < 4294967296 := by rw [hx]; exact hRs.at k
      have hst := sum_step hkl HE.out
      rw [← hx] at hcr hst
      by_cases hkm : k < m
      · have hcy := (grown_cell hgr (p := ⟨ga, oa + k, none⟩) hga hAg).trans (HCA.out k (by have := HYl.out; omega))
        obtain ⟨y, hy⟩ : ∃ y, y = Y.getD k 0 := ⟨_, rfl⟩
        have hy32 : y < 4294967296 := by rw [hy]; exact hY.1.at k
        rw [← hy] at hcy hst
        have HST := Lib.hid hst
        have hset := set_mid P rs S k ((c + x + y) % 4294967296) hkl
        have HSET := Lib.hid hset
        clear hst hset hx hy
        go_wp2
        go_roundw
        case rel =>
          refine ⟨k + 1, (c + x + y) / 4294967296, rs.set k ((c + x + y) % 4294967296), by omega, by go_num, by go_num, by omega, Lib.hid (by have := HL.out; simpa using this), hrs.set _ _ (Nat.mod_lt _ (by decide)), ?_, Lib.hid (fun i hi => ?_), HST, grown_set hgr _ _⟩
          · rw [show ((c : Int) + x + y) % 4294967296 = (((c + x + y) % 4294967296 : Nat) : Int) from by omega, ← HSET.out]; exact hdg.set _ _
          · rw [getD_set_other _ (by omega)]; exact HSM.out i (by omega)
        case measure => simp [intOf]; omega
      · have hy0 : Y.getD k 0 = 0 := by rw [List.getD_eq_getElem?_getD, List.getElem?_eq_none (by have := HYl.out; omega)]; rfl
        rw [hy0] at hst
        have HST := Lib.hid hst
        have hset := set_mid P rs S k ((c + x) % 4294967296) hkl
        have HSET := Lib.hid hset
        clear hst hset hx hy0
        go_wp2
        go_roundw
        case rel =>
          refine ⟨k + 1, (c + x) / 4294967296, rs.set k ((c + x) % 4294967296), by omega, by go_num, by go_num, by omega, Lib.hid (by have := HL.out; simpa using this), hrs.set _ _ (Nat.mod_lt _ (by decide)), ?_, Lib.hid (fun i hi => ?_), HST, grown_set hgr _ _⟩
          · rw [show ((c : Int) + x) % 4294967296 = (((c + x) % 4294967296 : Nat) : Int) from by omega, ← HSET.out]; exact hdg.set _ _
          · rw [getD_set_other _ (by omega)]; exact HSM.out i (by omega)
        case measure => simp [intOf]; omega
    · have hke : k = n := by omega
      subst hke
      have HLAST := Lib.hid (back_last HL.out HRl.out (by have := HYl.out; omega) hrs HE.out)
      go_wp2
      go_end0
      exact ⟨c, rs, rfl, ⟨by rw [HL.out, HRl.out], hrs, hdg, hgr⟩, by rw [HRl.out]; exact HLAST.out.1, by rw [HRl.out]; exact HLAST.out.2⟩

theorem grown_trans {a b c : World} {r : Option Nat} (h : a.grownBy b r) (k : b.grownBy c r) : a.grownBy c r :=
  ⟨k.os.trans h.os, k.tape.trans h.tape, k.output.trans h.output, Nat.le_trans h.size k.size, fun i hi hne => (k.block i (Nat.lt_of_lt_of_le hi h.size) hne).trans (h.block i hi hne)⟩
theorem grown_of_below {a b : World} (h : Below a.heap.size a b) (r : Option Nat) : a.grownBy b r := ⟨h.os, h.tape, h.output, h.size, fun i hi _ => h.block i hi⟩

/-- divideStep: the digit of the quotient; the remainder lies in the place of the digits. -/
def Stepped (w : World) (g : Nat) (P R S Y : List Nat) (e : Ending) (w' : World) : Prop :=
  ∃ rs : List Nat, e = .returned (.int .u32 (dv B32 R / dv B32 Y : Nat)) ∧ Turned w g P S R.length rs w' ∧ dv B32 rs = dv B32 R % dv B32 Y

theorem step_yes {r y q F t N : Nat} (hy : 0 < y) (hq : r / y = q) (h1 : q ≤ F) (ht : t + F * y = r + N * 0) : F = q ∧ t = r % y := by
  have h2 : F ≤ q := by rw [← hq, Nat.le_div_iff_mul_le hy]; omega
  have h3 : F = q := by omega
  subst h3
  have := Nat.div_add_mod r y
  rw [hq, Nat.mul_comm] at this
  exact ⟨rfl, by omega⟩
theorem step_no {r y q F t t2 c N : Nat} (hy : 0 < y) (hq : r / y = q) (h1 : F ≤ q + 1) (ht : t + F * y = r + N * 1) (hl : t < N) (hyN : y ≤ N) (h2 : t2 + N * c = t + y) (hl2 : t2 < N) : F = q + 1 ∧ t2 = r % y := by
  have h3 : ¬ F ≤ q := by rw [← hq, Nat.le_div_iff_mul_le hy]; omega
  have h4 : F = q + 1 := by omega
  subst h4
  have h5 := Nat.div_add_mod r y
  rw [hq, Nat.mul_comm] at h5
  have h6 := Nat.mod_lt r hy
  rw [Nat.succ_mul] at ht
  refine ⟨rfl, ?_⟩
  rcases (show c = 0 ∨ c = 1 ∨ 2 ≤ c by omega) with rfl | rfl | hc
  · omega
  · omega
  · have : N * 2 ≤ N * c := Nat.mul_le_mul_left _ hc
    omega
theorem step_fits {R Y : List Nat} (h : dv B32 R < B32 * dv B32 Y) : dv B32 R / dv B32 Y < 4294967296 ∧ 0 < dv B32 Y := by
  have : 0 < dv B32 Y := by
    rcases Nat.eq_zero_or_pos (dv B32 Y) with h0 | h0
    · rw [h0] at h; omega
    · exact h0
  exact ⟨by rw [Nat.div_lt_iff_lt_mul this]; exact h, this⟩

set_option maxHeartbeats 1000000 in
set_option maxRecDepth 100000 in
theorem step_any (g : Nat) (P R S Y : List Nat) (A : Option Addr) (n cr cy : Nat) (w : World) (hg : Dg w g (P ++ R ++ S)) (hRs : Small R) (hY : IsD w A Y) (hA : Apart A g) (hRl : R.length = n + 3) (hYl : Y.length = n + 2) (hn : n ≤ 100)
    (hlt : dv B32 R < B32 * dv B32 Y) (hv : 0 < Y.getD (n + 1) 0) :
    Calls Try.prog 105 #[.slice (some ⟨g, P.length, none⟩) (n + 3) cr, .slice A (n + 2) cy] w (Stepped w g P R S Y) := by
  have hRI : IsD w (some ⟨g, P.length, none⟩) R := ⟨hRs, fun _ => ⟨g, P.length, rfl, hg.lt, fun k hk => by
    rw [hg.cell (P.length + k) (by simp; omega), getD_mid P R S k hk]⟩⟩
  have hyp := step_fits hlt
  have hYN : dv B32 Y ≤ B32 ^ R.length := by
    have h1 := hY.1.dv_lt
    have h2 : B32 ^ Y.length ≤ B32 ^ R.length := Nat.pow_le_pow_right (by decide) (by omega)
    omega
  have GA := Lib.hid (guess_any _ _ R Y n cr cy w hRI hY hRl hYl (by omega) hlt hv)
  have HYP := Lib.hid hyp
  have HYN := Lib.hid hYN
  have HRL := Lib.hid hRl
  have HYL := Lib.hid hYl
  clear hlt hv hRI hyp hYN hRl hYl
  go_enter Try.func105, Try.ntmps105
  go_wp2_with fail
  refine GA.out.mono ?_
  rintro e w1 ⟨F, rfl, hq1, hq2, hF, hb1⟩
  have HQ1 := Lib.hid hq1
  have HQ2 := Lib.hid hq2
  clear hq1 hq2
  go_wp2_with fail
  refine (times_any g P R S Y A (n + 3) (n + 2) cr cy F _ (hg.below hb1 hg.lt) hRs (hY.below hb1) hA HRL.out HYL.out (by omega) (by omega) (by omega) hF).mono ?_
  rintro e w2 ⟨b, rs, hb, rfl, ⟨hrl, hrs, hdg, hgr⟩, heq, hrlt⟩
  have HRSL := Lib.hid hrl
  have HEQ := Lib.hid heq
  have HRLT := Lib.hid hrlt
  clear hrl heq hrlt
  have G2 := Lib.hid (grown_trans (grown_of_below hb1 (some g)) hgr)
  rcases (show b = 0 ∨ b = 1 by omega) with rfl | rfl
  · have HS := Lib.hid (step_yes HYP.out.2 rfl HQ1.out HEQ.out)
    have hbt : ((0 : Nat) == 1) = false := rfl
    go_wp2
    go_ret
    exact ⟨rs, by rw [← HS.out.1]; rfl, ⟨HRSL.out, hrs, hdg, G2.out⟩, HS.out.2⟩
  · have hbt : ((1 : Nat) == 1) = true := rfl
    go_wp2_with fail
    refine (back_any g P rs S Y A (n + 3) (n + 2) cr cy _ hdg hrs ((hY.below hb1).grown hgr hA) hA (by rw [HRSL.out, HRL.out]) HYL.out (by omega) (by omega) (by omega)).mono ?_
    rintro e w3 ⟨c, rs2, rfl, ⟨hrl2, hrs2, hdg2, hgr2⟩, heq2, hrlt2⟩
    rw [HRSL.out] at heq2 hrlt2 hrl2
    have HS := Lib.hid (step_no HYP.out.2 rfl HQ2.out HEQ.out HRLT.out HYN.out heq2 hrlt2)
    have HRL2 := Lib.hid hrl2
    clear heq2 hrlt2 hrl2
    have hF1 : 1 ≤ F := by rw [HS.out.1]; exact Nat.le_add_left 1 _
    have HFN : Hid (((F : Int) - 1) = ((dv B32 R / dv B32 Y : Nat) : Int)) := Lib.hid (by rw [HS.out.1]; simp)
    go_wp2
    go_ret
    exact ⟨rs2, by rw [← HFN.out]; rfl, ⟨HRL2.out, hrs2, hdg2, grown_trans G2.out hgr2⟩, HS.out.2⟩

theorem step_at (g : Nat) (P R S Y : List Nat) (A : Option Addr) (n o cr cy : Nat) (w : World) (hg : Dg w g (P ++ R ++ S)) (hRs : Small R) (hY : IsD w A Y) (hA : Apart A g) (hP : P.length = o) (hRl : R.length = n + 3) (hYl : Y.length = n + 2) (hn : n ≤ 100)
    (hlt : dv B32 R < B32 * dv B32 Y) (hv : 0 < Y.getD (n + 1) 0) :
    Calls Try.prog 105 #[.slice (some ⟨g, o, none⟩) (n + 3) cr, .slice A (n + 2) cy] w (Stepped w g P R S Y) := by
  subst hP; exact step_any g P R S Y A n cr cy w hg hRs hY hA hRl hYl hn hlt hv
end Go.Proofs.Ytehpdpcpdfgnlaa
