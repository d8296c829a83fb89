/-
  The contracts of natural.subtractTimes and natural.addBack.
-/
import Derived.Test.YtehpdpcpdfgnlaaDivA
import Derived.Test.YtehpdpcpdfgnlaaDigB
namespace Go.Proofs.Ytehpdpcpdfgnlaa
open Go.RowKit Num

/-- The digits of block g from P.length on have turned; no other block has. -/
def Turned (w : World) (g : Nat) (P S : List Nat) (n : Nat) (rs : List Nat) (w' : World) : Prop :=
  rs.length = n ∧ Small rs ∧ Dg w' g (P ++ rs ++ S) ∧ w.grownBy w' (some g)

theorem times_step {R Y rs : List Nat} {k F c b q r lo hi : Nat} (hk : k < rs.length) (h : dv B32 (rs.take k) + F * dv B32 (Y.take k) = dv B32 (R.take k) + B32 ^ k * (c + b))
    (hm : c + F * Y.getD k 0 = lo + B32 * hi) (hr : r + lo + b = R.getD k 0 + B32 * q) :
    dv B32 ((rs.set k r).take (k + 1)) + F * dv B32 (Y.take (k + 1)) = dv B32 (R.take (k + 1)) + B32 ^ (k + 1) * (hi + q) := by
  rw [dv_set_next _ _ _ _ hk, dv_take_next, dv_take_next, Nat.pow_succ]
  generalize R.getD k 0 = x at *
  generalize Y.getD k 0 = y at *
  generalize B32 ^ k = p at *
  have e1 : p * c + p * (F * y) = p * lo + p * B32 * hi := by
    rw [Nat.mul_assoc, ← Nat.mul_add, ← Nat.mul_add, hm]
  have e2 : p * r + p * lo + p * b = p * x + p * B32 * q := by
    rw [Nat.mul_assoc, ← Nat.mul_add, ← Nat.mul_add, ← Nat.mul_add, hr]
  have e3 : F * (dv B32 (Y.take k) + p * y) = F * dv B32 (Y.take k) + p * (F * y) := by grind
  rw [e3]
  rw [Nat.mul_add] at h
  rw [Nat.mul_add]
  omega
theorem times_last {R Y rs : List Nat} {F c b n : Nat} (hrl : rs.length = n) (hRl : R.length = n) (hYl : Y.length ≤ n) (hs : Small rs) (hc : c = 0) (h : dv B32 (rs.take n) + F * dv B32 (Y.take n) = dv B32 (R.take n) + B32 ^ n * (c + b)) :
    dv B32 rs + F * dv B32 Y = dv B32 R + B32 ^ n * b ∧ dv B32 rs < B32 ^ n := by
  rw [dv_take_all _ _ _ (by omega), dv_take_all _ _ _ hYl, dv_take_all _ _ _ (by omega), hc, Nat.zero_add] at h
  have := hs.dv_lt
  rw [hrl] at this
  exact ⟨h, this⟩

/-- subtractTimes: the digits less the product, modulo the numbers of as many digits; whether it would be negative. -/
def Subtracted (w : World) (g : Nat) (P R S Y : List Nat) (F : Nat) (e : Ending) (w' : World) : Prop :=
  ∃ (b : Nat) (rs : List Nat), b ≤ 1 ∧ e = .returned (.bool (b == 1)) ∧ Turned w g P S R.length rs w' ∧ dv B32 rs + F * dv B32 Y = dv B32 R + B32 ^ R.length * b ∧ dv B32 rs < B32 ^ R.length

theorem dif2_lo (x b y : Nat) (hx : x < 4294967296) (hb : b ≤ 1) (hy : y < 4294967296) : IntKind.u64.wrap (IntKind.u64.wrap ((x : Int) - y) - b) % 4294967296 = (((x + 4294967296 - y - b) % 4294967296 : Nat) : Int) := by
  rw [IntKind.wrap_u64, IntKind.wrap_u64]; omega
theorem dif2_hi (x b y : Nat) (hx : x < 4294967296) (hb : b ≤ 1) (hy : y < 4294967296) : IntKind.u64.wrap (IntKind.u64.wrap ((x : Int) - y) - b) / 9223372036854775808 = ((1 - (x + 4294967296 - y - b) / 4294967296 : Nat) : Int) := by
  rw [IntKind.wrap_u64, IntKind.wrap_u64]; omega
theorem mask32 (t : Nat) (h : t < 18446744073709551616) : bits BinOp.and IntKind.u64 (t : Int) 4294967295 = ((t % 4294967296 : Nat) : Int) := by
  have := u64_and_nat t 4294967295 h (by omega)
  rw [Nat.and_two_pow_sub_one_eq_mod t 32] at this
  exact this
theorem getD_set_other (rs : List Nat) {k i d : Nat} (h : k ≠ i) : (rs.set k d).getD i 0 = rs.getD i 0 := by
  simp [List.getD_eq_getElem?_getD, h]

set_option maxHeartbeats 1000000 in
set_option maxRecDepth 100000 in
theorem times_any (g : Nat) (P R S Y : List Nat) (A : Option Addr) (n m cr cy F : Nat) (w : World) (hg : Dg w g (P ++ R ++ S)) (hRs : Small R) (hY : IsD w A Y) (hA : Apart A g) (hRl : R.length = n) (hYl : Y.length = m) (hm0 : 0 < m) (hmn : m < n) (hn : n ≤ 1000) (hF : F < 4294967296) :
    Calls Try.prog 111 #[.slice (some ⟨g, P.length, none⟩) n cr, .slice A m cy, .int .u64 F] w (Subtracted w g P R S Y F) := by
  obtain ⟨ga, oa, rfl, hga, hca⟩ := hY.2 (by omega)
  have hAg : ga ≠ g := hA ⟨ga, oa, none⟩ rfl
  have HRl := Lib.hid hRl
  have HYl := Lib.hid hYl
  have HCA := Lib.hid hca
  have HG := Lib.hid hg
  clear hRl hYl hca hA
  go_enter Try.func111, Try.ntmps111
  go_wp2
  go_loopw [7, 8, 13] (fun a b' i wr => ∃ (k c b : Nat) (rs : List Nat), k ≤ n ∧ i = .int .i64 k ∧ a = .int .u64 c ∧ b' = .int .u64 b ∧ c < 4294967296 ∧ b ≤ 1 ∧ Hid (m < k → c = 0) ∧ Hid (rs.length = n) ∧ Small rs ∧ Dg wr g (P ++ rs ++ S) ∧ Hid (∀ i, k ≤ i → rs.getD i 0 = R.getD i 0) ∧
      Hid (dv B32 (rs.take k) + F * dv B32 (Y.take k) = dv B32 (R.take k) + B32 ^ k * (c + b)) ∧ w.grownBy wr (some g)) (fun _ _ i _ => n - (intOf i).toNat)
  case atStart => exact ⟨0, 0, 0, R, Nat.zero_le _, rfl, rfl, rfl, by omega, by omega, Lib.hid (fun _ => rfl), HRl, hRs, HG.out, Lib.hid (fun _ _ => rfl), Lib.hid (by simp [dv]), World.grownBy.refl _ _⟩
  case round =>
    obtain ⟨k, c, b, rs, hk, rfl, rfl, rfl, hc, hb, HC0, HL, hrs, hdg, HSM, HE, hgr⟩ := hrel
    by_cases hlt : k < n
    · have hkl : k < rs.length := by have := HL.out; omega
      have hcr := hdg.cell (P.length + k) (by simp; omega)
      rw [getD_mid P rs S k hkl, HSM.out k (Nat.le_refl _)] at hcr
      have hfr := hdg.frozen (P.length + k)
      obtain ⟨x, hx⟩ : ∃ x, x = R.getD k 0 := ⟨_, rfl⟩
      have hx32 : x < 4294967296 := by rw [hx]; exact hRs.at k
      rw [← hx] at hcr
      by_cases hkm : k < m
      · have hcy := (grown_cell hgr (p := ⟨ga, oa + k, none⟩) hga hAg).trans (HCA.out k (by have := HYl.out; omega))
        obtain ⟨y, hy⟩ : ∃ y, y = Y.getD k 0 := ⟨_, rfl⟩
        have hy32 : y < 4294967296 := by rw [hy]; exact hY.1.at k
        rw [← hy] at hcy
        obtain ⟨pr, hpr⟩ : ∃ pr, pr = F * y := ⟨_, rfl⟩
        have hpm : (y : Int) * (F : Int) = (pr : Int) := by rw [hpr, Nat.mul_comm]; simp
        have hp64 : pr ≤ 18446744065119617025 := by
          rw [hpr]; exact Nat.mul_le_mul (show F ≤ 4294967295 by omega) (show y ≤ 4294967295 by omega)
        obtain ⟨t, ht⟩ : ∃ t, t = c + pr := ⟨_, rfl⟩
        have ht64 : t < 18446744073709551616 := by omega
        have htc : (c : Int) + (pr : Int) = (t : Int) := by omega
        have hand := mask32 t ht64
        obtain ⟨lo, hlo⟩ : ∃ lo, lo = t % 4294967296 := ⟨_, rfl⟩
        rw [← hlo] at hand
        have hlo32 : lo < 4294967296 := by omega
        have hst := times_step (r := (x + 4294967296 - lo - b) % 4294967296) (q := 1 - (x + 4294967296 - lo - b) / 4294967296) (lo := lo) (hi := t / 4294967296) hkl HE.out (by rw [← hy, ← hpr, ← ht, hlo]; unfold B32; omega) (by rw [← hx]; unfold B32; omega)
        have HST := Lib.hid hst
        have HL1 := Lib.hid (dif2_lo x b lo hx32 hb hlo32)
        have HH1 := Lib.hid (dif2_hi x b lo hx32 hb hlo32)
        have hset := set_mid P rs S k ((x + 4294967296 - lo - b) % 4294967296) hkl
        have HSET := Lib.hid hset
        have HT64 := Lib.hid ht64
        clear hst hset hx hy hpr ht hlo ht64
        go_wp2
        go_roundw
        case rel =>
          refine ⟨k + 1, t / 4294967296, 1 - (x + 4294967296 - lo - b) / 4294967296, rs.set k ((x + 4294967296 - lo - b) % 4294967296), by omega, by go_num, by go_num, val_int HH1.out, by have := HT64.out; omega, by omega, Lib.hid (by omega), Lib.hid (by have := HL.out; simpa using this), hrs.set _ _ (Nat.mod_lt _ (by decide)), ?_, Lib.hid (fun i hi => ?_), HST, grown_set hgr _ _⟩
          · rw [HL1.out, ← HSET.out]; exact hdg.set _ _
          · rw [getD_set_other _ (by omega)]; exact HSM.out i (by omega)
        case measure => simp [intOf]; omega
      · have hand : bits BinOp.and IntKind.u64 (c : Int) 4294967295 = (c : Int) := by
          have := mask32 c (by omega)
          rw [Nat.mod_eq_of_lt hc] at this
          exact this
        have hy0 : Y.getD k 0 = 0 := by rw [List.getD_eq_getElem?_getD, List.getElem?_eq_none (by have := HYl.out; omega)]; rfl
        have hst := times_step (r := (x + 4294967296 - c - b) % 4294967296) (q := 1 - (x + 4294967296 - c - b) / 4294967296) (lo := c) (hi := 0) hkl HE.out (by rw [hy0]; omega) (by rw [← hx]; unfold B32; omega)
        have HST := Lib.hid hst
        have HL1 := Lib.hid (dif2_lo x b c hx32 hb hc)
        have HH1 := Lib.hid (dif2_hi x b c hx32 hb hc)
        have hset := set_mid P rs S k ((x + 4294967296 - c - b) % 4294967296) hkl
        have HSET := Lib.hid hset
        clear hst hset hx hy0
        go_wp2
        go_roundw
        case rel =>
          refine ⟨k + 1, 0, 1 - (x + 4294967296 - c - b) / 4294967296, rs.set k ((x + 4294967296 - c - b) % 4294967296), by omega, by go_num, by go_num, val_int HH1.out, by omega, by omega, Lib.hid (fun _ => rfl), Lib.hid (by have := HL.out; simpa using this), hrs.set _ _ (Nat.mod_lt _ (by decide)), ?_, Lib.hid (fun i hi => ?_), HST, grown_set hgr _ _⟩
          · rw [HL1.out, ← HSET.out]; exact hdg.set _ _
          · rw [getD_set_other _ (by omega)]; exact HSM.out i (by omega)
        case measure => simp [intOf]; omega
    · have hke : k = n := by omega
      subst hke
      have HLAST := Lib.hid (times_last HL.out HRl.out (by have := HYl.out; omega) hrs (HC0.out hmn) HE.out)
      rcases (show b = 0 ∨ b = 1 by omega) with rfl | rfl
      · go_wp2
        go_ret
        exact ⟨0, rs, by omega, rfl, ⟨by rw [HL.out, HRl.out], hrs, hdg, hgr⟩, by rw [HRl.out]; exact HLAST.out.1, by rw [HRl.out]; exact HLAST.out.2⟩
      · go_wp2
        go_ret
        exact ⟨1, rs, by omega, rfl, ⟨by rw [HL.out, HRl.out], hrs, hdg, hgr⟩, by rw [HRl.out]; exact HLAST.out.1, by rw [HRl.out]; exact HLAST.out.2⟩
end Go.Proofs.Ytehpdpcpdfgnlaa
