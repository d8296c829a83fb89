/-
  The contracts of math/bits.Div64, modular.subtractTimes, modular.addBack and modular.divideStep.
-/
import Derived.Test.YtmiafkbjmkaebaaGreatModD
import Derived.Test.YtmiafkbjmkaebaaGreatModE
namespace Go.Proofs.YtmiafkbjmkaebaaGreat
open Go.RowKit Num

set_option maxHeartbeats 1000000 in
set_option maxRecDepth 100000 in
theorem div64_zero (L Y : Int) (w : World) (hY : (Y == 0) = false) (hYn : ¬ Y = 0) (hYp : 0 < Y) (hq : IntKind.u64.wrap (L.tdiv Y) = L / Y) (hr : L.tmod Y = L % Y) :
    Calls Tryz.prog 132 #[.int .u64 0, .int .u64 L, .int .u64 Y] w (Made w (.tuple #[.int .u64 (L / Y), .int .u64 (L % Y)])) := by
  go_enter Tryz.func132, Tryz.ntmps132
  go_wp2
  go_region
  go_wp2
  go_ret2
  exact ⟨rfl, (Below.refl _ _).drew⟩
theorem div64_any (hi lo y N : Nat) (hN : N = hi * 18446744073709551616 + lo) (hh : hi < y) (hl : lo < 18446744073709551616) (hy : y < 18446744073709551616) (hy2 : 9223372036854775808 ≤ y) (w : World) :
    Calls Tryz.prog 132 #[.int .u64 (hi : Int), .int .u64 (lo : Int), .int .u64 (y : Int)] w (Made w (.tuple #[.int .u64 ((N / y : Nat) : Int), .int .u64 ((N % y : Nat) : Int)])) := by
  rcases Nat.eq_zero_or_pos hi with h0 | h0
  · subst h0
    have hNl : N = lo := by omega
    subst hNl
    have hd : ((N / y : Nat) : Int) = (N : Int) / (y : Int) := by simp
    have hm : ((N % y : Nat) : Int) = (N : Int) % (y : Int) := by simp
    have hdl : N / y ≤ N := Nat.div_le_self _ _
    rw [hd, hm]
    refine div64_zero (N : Int) (y : Int) w (by simp; omega) (by omega) (by omega) ?_ ?_
    · rw [show (N : Int).tdiv (y : Int) = ((N / y : Nat) : Int) from rfl, ← hd, IntKind.wrap_u64]
      generalize N / y = q at *
      omega
    · rw [show (N : Int).tmod (y : Int) = ((N % y : Nat) : Int) from rfl, ← hm]
  · exact (div64_pos hi lo y N hN h0 hh hl hy hy2 w).mono fun e w' h => ⟨h.1, h.2 ▸ Below.refl _ _⟩

theorem run_Add64z (x y : Nat) (w : World) :
    (callFunc 117 #[.int .u64 (x : Int), .int .u64 (y : Int), .int .u64 0]).run Tryz.prog w =
      .ok (.value (.tuple #[.int .u64 (((x + y) % 18446744073709551616 : Nat) : Int), .int .u64 (((x + y) / 18446744073709551616 : Nat) : Int)])) w := run_Add64 x y 0 (by omega) w

theorem wtimes_step {R Y rs : List Nat} {k F c b q r lo hi : Nat} (hk : k < rs.length) (h : dv B64 (rs.take k) + F * dv B64 (Y.take k) = dv B64 (R.take k) + B64 ^ k * (c + b))
    (hm : c + F * Y.getD k 0 = lo + B64 * hi) (hr : r + lo + b = R.getD k 0 + B64 * q) :
    dv B64 ((rs.set k r).take (k + 1)) + F * dv B64 (Y.take (k + 1)) = dv B64 (R.take (k + 1)) + B64 ^ (k + 1) * (hi + q) := by
  rw [dv_set_next _ _ _ _ hk, dv_take_next, dv_take_next, Nat.pow_succ]
  generalize R.getD k 0 = x at *
  generalize Y.getD k 0 = y at *
  generalize B64 ^ k = p at *
  have e1 : p * c + p * (F * y) = p * lo + p * B64 * hi := by
    rw [Nat.mul_assoc, ← Nat.mul_add, ← Nat.mul_add, hm]
  have e2 : p * r + p * lo + p * b = p * x + p * B64 * q := by
    rw [Nat.mul_assoc, ← Nat.mul_add, ← Nat.mul_add, ← Nat.mul_add, hr]
  have e3 : F * (dv B64 (Y.take k) + p * y) = F * dv B64 (Y.take k) + p * (F * y) := by grind
  rw [e3]
  rw [Nat.mul_add] at h
  rw [Nat.mul_add]
  omega
/-- The words of a block are turned; all else is as it was, or new. -/
def TurnedV (w : World) (g : Nat) (P S : List Value) (n : Nat) (rs : List Nat) (w' : World) : Prop :=
  rs.length = n ∧ SmallW rs ∧ Wv w' g P rs S ∧ w.grownBy w' (some g)
/-- subtractTimes: the words less the product, modulo the numbers of as many words; whether it would be negative. -/
def SubtractedW (w : World) (g : Nat) (P S : List Value) (R Y : List Nat) (F : Nat) (e : Ending) (w' : World) : Prop :=
  ∃ (b : Nat) (rs : List Nat), b ≤ 1 ∧ e = .returned (.bool (b == 1)) ∧ TurnedV w g P S R.length rs w' ∧ dv B64 rs + F * dv B64 Y = dv B64 R + B64 ^ R.length * b
theorem wsub_word (x y b : Nat) (hx : x < 18446744073709551616) (hy : y < 18446744073709551616) (hb : b ≤ 1) :
    (x + 18446744073709551616 - y - b) % 18446744073709551616 + y + b = x + 18446744073709551616 * (if x < y + b then 1 else 0) := by
  split <;> omega
theorem wmul_word (y F c : Nat) (hy : y < 18446744073709551616) (hF : F < 18446744073709551616) (hc : c < 18446744073709551616) :
    y * F / 18446744073709551616 + (y * F % 18446744073709551616 + c) / 18446744073709551616 < 18446744073709551616 ∧
    c + F * y = (y * F % 18446744073709551616 + c) % 18446744073709551616 + 18446744073709551616 * (y * F / 18446744073709551616 + (y * F % 18446744073709551616 + c) / 18446744073709551616) := by
  have h : y * F ≤ 18446744073709551615 * 18446744073709551615 := Nat.mul_le_mul (by omega) (by omega)
  rw [Nat.mul_comm F y]
  generalize y * F = t at *
  omega

set_option maxHeartbeats 1000000 in
set_option maxRecDepth 100000 in
theorem wtimes_any (g o n m cr ga oa cy F : Nat) (P S : List Value) (R Y : List Nat) (w : World) (hg : Wv w g P R S) (hP : P.length = o) (hRs : SmallW R) (hY : IsW w (some ⟨ga, oa, none⟩) Y) (hAg : ga ≠ g) (hRl : R.length = n) (hYl : Y.length = m) (hm0 : 0 < m) (hmn : m + 1 = n) (hn : n ≤ 1000) (hF : F < 18446744073709551616) :
    Calls Tryz.prog 133 #[.slice (some ⟨g, o, none⟩) n cr, .slice (some ⟨ga, oa, none⟩) m cy, .int .u64 (F : Int)] w (SubtractedW w g P S R Y F) := by
  subst hP
  obtain ⟨ga', oa', he, hga, hca⟩ := hY.2 (by omega)
  injection he with he
  injection he with he1 he2
  subst he1 he2
  have HRl := Lib.hid hRl
  have HYl := Lib.hid hYl
  have HCA := Lib.hid hca
  have HG := Lib.hid hg
  have HF := Lib.hid hF
  clear hRl hYl hca hF
  go_enter Tryz.func133, Tryz.ntmps133
  go_wp2
  go_loopw [7, 8, 16] (fun a b' i wr => ∃ (k c b : Nat) (rs : List Nat), k ≤ m ∧ i = .int .i64 k ∧ a = .int .u64 c ∧ b' = .int .u64 b ∧ Hid (c < 18446744073709551616) ∧ b ≤ 1 ∧ Hid (rs.length = n) ∧ SmallW rs ∧ Wv wr g P rs S ∧ Hid (∀ i, k ≤ i → rs.getD i 0 = R.getD i 0) ∧
      Hid (dv B64 (rs.take k) + F * dv B64 (Y.take k) = dv B64 (R.take k) + B64 ^ k * (c + b)) ∧ w.grownBy wr (some g)) (fun _ _ i _ => m - (intOf i).toNat)
  case atStart => exact ⟨0, 0, 0, R, Nat.zero_le _, rfl, rfl, rfl, Lib.hid (by decide), by omega, HRl, hRs, HG.out, Lib.hid (fun _ _ => rfl), Lib.hid (by simp [dv]), World.grownBy.refl _ _⟩
  case round =>
    obtain ⟨k, c, b, rs, hk, rfl, rfl, rfl, HC, hb, HL, hrs, hdg, HSM, HE, hgr⟩ := hrel
    by_cases hlt : k < m
    · have hkl : k < rs.length := by have := HL.out; omega
      have hcr := hdg.cell k hkl
      rw [HSM.out k (Nat.le_refl _)] at hcr
      have hfr := hdg.frozen (P.length + k)
      obtain ⟨x, hx⟩ : ∃ x, x = R.getD k 0 := ⟨_, rfl⟩
      have hx64 : x < 18446744073709551616 := by rw [hx]; exact hRs.at k
      rw [← hx] at hcr
      have hcy := (grown_cell hgr (p := ⟨ga, oa + k, none⟩) hga hAg).trans (HCA.out k (by have := HYl.out; omega))
      obtain ⟨y, hy⟩ : ∃ y, y = Y.getD k 0 := ⟨_, rfl⟩
      have hy64 : y < 18446744073709551616 := by rw [hy]; exact hY.1.at k
      rw [← hy] at hcy
      have hmw := wmul_word y F c hy64 HF.out HC.out
      obtain ⟨hi, hhi⟩ : ∃ t, t = y * F / 18446744073709551616 := ⟨_, rfl⟩
      obtain ⟨lo, hlo⟩ : ∃ t, t = y * F % 18446744073709551616 := ⟨_, rfl⟩
      rw [← hhi, ← hlo] at hmw
      obtain ⟨l2, hl2⟩ : ∃ t, t = (lo + c) % 18446744073709551616 := ⟨_, rfl⟩
      obtain ⟨c2, hc2⟩ : ∃ t, t = (lo + c) / 18446744073709551616 := ⟨_, rfl⟩
      rw [← hl2, ← hc2] at hmw
      have hl264 : l2 < 18446744073709551616 := by omega
      obtain ⟨r, hr⟩ : ∃ t, t = (x + 18446744073709551616 - l2 - b) % 18446744073709551616 := ⟨_, rfl⟩
      obtain ⟨q, hq⟩ : ∃ t, t = if x < l2 + b then 1 else 0 := ⟨_, rfl⟩
      have hsw := wsub_word x l2 b hx64 hl264 hb
      rw [← hr, ← hq] at hsw
      have hq1 : q ≤ 1 := by rw [hq]; split <;> omega
      have hr64 : r < 18446744073709551616 := by omega
      have CM := Lib.hid (fun W => by
        have := mul64_any y F hy64 HF.out W
        rw [← hhi, ← hlo] at this
        exact this : ∀ W, Calls Tryz.prog 116 #[.int .u64 (y : Int), .int .u64 (F : Int)] W (Same W (.tuple #[.int .u64 (hi : Int), .int .u64 (lo : Int)])))
      have ha : ∀ W, (callFunc 117 #[.int .u64 (lo : Int), .int .u64 (c : Int), .int .u64 0]).run Tryz.prog W = .ok (.value (.tuple #[.int .u64 (l2 : Int), .int .u64 (c2 : Int)])) W := fun W => by
        rw [run_Add64z, ← hl2, ← hc2]
      have hsb : ∀ W, (callFunc 140 #[.int .u64 (x : Int), .int .u64 (l2 : Int), .int .u64 (b : Int)]).run Tryz.prog W = .ok (.value (.tuple #[.int .u64 (r : Int), .int .u64 (q : Int)])) W := fun W => by
        rw [run_Sub64 x l2 b hb, ← hr, ← hq]
      obtain ⟨car, hcar⟩ : ∃ t, t = hi + c2 := ⟨_, rfl⟩
      have hcw : IntKind.u64.wrap ((hi : Int) + c2) = (car : Int) := by rw [IntKind.wrap_u64]; omega
      have hst := wtimes_step (r := r) (q := q) (lo := l2) (hi := car) hkl HE.out (by rw [← hy, hmw.2, hcar]; rfl) (by rw [← hx, hsw]; rfl)
      have HST := Lib.hid hst
      have HR := Lib.hid hr64
      have HCAR := Lib.hid (show car < 18446744073709551616 by rw [hcar]; exact hmw.1)
      clear hst hx hy hhi hlo hl2 hc2 hr hq hsw hmw hcar hr64 hl264 hx64 hy64
      go_wp2_with (go_at_call 116; refine (CM.out _).mono ?_; rintro e w' ⟨rfl, rfl⟩)
      go_roundw
      case rel =>
        exact ⟨k + 1, car, q, rs.set k r, by omega, by go_num, rfl, rfl, HCAR, hq1, Lib.hid (by have := HL.out; simpa using this), hrs.set _ _ HR.out, hdg.set _ _ hkl, Lib.hid (fun i hi => by rw [getD_set_other _ (by omega)]; exact HSM.out i (by omega)), HST, grown_set hgr _ _⟩
      case measure => simp [intOf]; omega
    · have hke : k = m := by omega
      subst hke
      have hkl : k < rs.length := by have := HL.out; omega
      have hcr := hdg.cell k hkl
      rw [HSM.out k (Nat.le_refl _)] at hcr
      have hfr := hdg.frozen (P.length + k)
      obtain ⟨x, hx⟩ : ∃ x, x = R.getD k 0 := ⟨_, rfl⟩
      have hx64 : x < 18446744073709551616 := by rw [hx]; exact hRs.at k
      rw [← hx] at hcr
      have hy0 : Y.getD k 0 = 0 := by rw [List.getD_eq_getElem?_getD, List.getElem?_eq_none (by have := HYl.out; omega)]; rfl
      obtain ⟨r, hr⟩ : ∃ t, t = (x + 18446744073709551616 - c - b) % 18446744073709551616 := ⟨_, rfl⟩
      obtain ⟨q, hq⟩ : ∃ t, t = if x < c + b then 1 else 0 := ⟨_, rfl⟩
      have hsw := wsub_word x c b hx64 HC.out hb
      rw [← hr, ← hq] at hsw
      have hq1 : q ≤ 1 := by rw [hq]; split <;> omega
      have hr64 : r < 18446744073709551616 := by omega
      have hsb : ∀ W, (callFunc 140 #[.int .u64 (x : Int), .int .u64 (c : Int), .int .u64 (b : Int)]).run Tryz.prog W = .ok (.value (.tuple #[.int .u64 (r : Int), .int .u64 (q : Int)])) W := fun W => by
        rw [run_Sub64 x c b hb, ← hr, ← hq]
      have hst := wtimes_step (r := r) (q := q) (lo := c) (hi := 0) hkl HE.out (by rw [hy0]; omega) (by rw [← hx, hsw]; rfl)
      rw [dv_take_all _ _ _ (by have := HL.out; simp; omega), dv_take_all _ _ _ (by have := HYl.out; omega), dv_take_all _ _ _ (by have := HRl.out; omega), Nat.zero_add, hmn] at hst
      have HST := Lib.hid hst
      have HR := Lib.hid hr64
      have HP := Lib.hid (show (rs.set k r).length = R.length ∧ R.length = n by have := HL.out; have := HRl.out; simp; omega)
      clear hst hx hr hq hsw hr64 hx64 hy0
      rcases (show q = 0 ∨ q = 1 by omega) with rfl | rfl
      · go_wp2
        go_ret
        exact ⟨0, rs.set k r, by omega, rfl, ⟨HP.out.1, hrs.set _ _ HR.out, hdg.set _ _ hkl, grown_set hgr _ _⟩, by rw [HP.out.2]; exact HST.out⟩
      · go_wp2
        go_ret
        exact ⟨1, rs.set k r, by omega, rfl, ⟨HP.out.1, hrs.set _ _ HR.out, hdg.set _ _ hkl, grown_set hgr _ _⟩, by rw [HP.out.2]; exact HST.out⟩

theorem wback_step {R Y rs : List Nat} {k c r c' : Nat} (hk : k < rs.length) (h : dv B64 (rs.take k) + B64 ^ k * c = dv B64 (R.take k) + dv B64 (Y.take k))
    (hr : R.getD k 0 + Y.getD k 0 + c = r + B64 * c') :
    dv B64 ((rs.set k r).take (k + 1)) + B64 ^ (k + 1) * c' = dv B64 (R.take (k + 1)) + dv B64 (Y.take (k + 1)) := by
  rw [dv_set_next _ _ _ _ hk, dv_take_next, dv_take_next, Nat.pow_succ]
  generalize R.getD k 0 = x at *
  generalize Y.getD k 0 = y at *
  generalize B64 ^ k = p at *
  have e1 : p * x + p * y + p * c = p * r + p * B64 * c' := by
    rw [Nat.mul_assoc, ← Nat.mul_add, ← Nat.mul_add, ← Nat.mul_add, hr]
  omega
/-- addBack: the words and the addend, modulo the numbers of as many words; whether the carry is 1. -/
def AddedW (w : World) (g : Nat) (P S : List Value) (R Y : List Nat) (e : Ending) (w' : World) : Prop :=
  ∃ (c : Nat) (rs : List Nat), c ≤ 1 ∧ e = .returned (.bool (c == 1)) ∧ TurnedV w g P S R.length rs w' ∧ dv B64 rs + B64 ^ R.length * c = dv B64 R + dv B64 Y

set_option maxHeartbeats 1000000 in
set_option maxRecDepth 100000 in
theorem wback_any (g o n m cr ga oa cy : Nat) (P S : List Value) (R Y : List Nat) (w : World) (hg : Wv w g P R S) (hP : P.length = o) (hRs : SmallW R) (hY : IsW w (some ⟨ga, oa, none⟩) Y) (hAg : ga ≠ g) (hRl : R.length = n) (hYl : Y.length = m) (hm0 : 0 < m) (hmn : m + 1 = n) (hn : n ≤ 1000) :
    Calls Tryz.prog 134 #[.slice (some ⟨g, o, none⟩) n cr, .slice (some ⟨ga, oa, none⟩) m cy] w (AddedW w g P S R Y) := by
  subst hP
  obtain ⟨ga', oa', he, hga, hca⟩ := hY.2 (by omega)
  injection he with he
  injection he with he1 he2
  subst he1 he2
  have HRl := Lib.hid hRl
  have HYl := Lib.hid hYl
  have HCA := Lib.hid hca
  have HG := Lib.hid hg
  clear hRl hYl hca
  go_enter Tryz.func134, Tryz.ntmps134
  go_wp2
  go_loopw [5, 10] (fun a i wr => ∃ (k c : Nat) (rs : List Nat), k ≤ m ∧ i = .int .i64 k ∧ a = .int .u64 c ∧ c ≤ 1 ∧ Hid (rs.length = n) ∧ SmallW rs ∧ Wv wr g P rs S ∧ Hid (∀ i, k ≤ i → rs.getD i 0 = R.getD i 0) ∧
      Hid (dv B64 (rs.take k) + B64 ^ k * c = dv B64 (R.take k) + dv B64 (Y.take k)) ∧ w.grownBy wr (some g)) (fun _ i _ => m - (intOf i).toNat)
  case atStart => exact ⟨0, 0, R, Nat.zero_le _, rfl, rfl, by omega, HRl, hRs, HG.out, Lib.hid (fun _ _ => rfl), Lib.hid (by simp [dv]), World.grownBy.refl _ _⟩
  case round =>
    obtain ⟨k, c, rs, hk, rfl, rfl, hc, HL, hrs, hdg, HSM, HE, hgr⟩ := hrel
    by_cases hlt : k < m
    · have hkl : k < rs.length := by have := HL.out; omega
      have hcr := hdg.cell k hkl
      rw [HSM.out k (Nat.le_refl _)] at hcr
      have hfr := hdg.frozen (P.length + k)
      obtain ⟨x, hx⟩ : ∃ x, x = R.getD k 0 := ⟨_, rfl⟩
      have hx64 : x < 18446744073709551616 := by rw [hx]; exact hRs.at k
      rw [← hx] at hcr
      have hcy := (grown_cell hgr (p := ⟨ga, oa + k, none⟩) hga hAg).trans (HCA.out k (by have := HYl.out; omega))
      obtain ⟨y, hy⟩ : ∃ y, y = Y.getD k 0 := ⟨_, rfl⟩
      have hy64 : y < 18446744073709551616 := by rw [hy]; exact hY.1.at k
      rw [← hy] at hcy
      obtain ⟨r, hr⟩ : ∃ t, t = (x + y + c) % 18446744073709551616 := ⟨_, rfl⟩
      obtain ⟨q, hq⟩ : ∃ t, t = (x + y + c) / 18446744073709551616 := ⟨_, rfl⟩
      have hq1 : q ≤ 1 := by omega
      have hr64 : r < 18446744073709551616 := by omega
      have ha : ∀ W, (callFunc 117 #[.int .u64 (x : Int), .int .u64 (y : Int), .int .u64 (c : Int)]).run Tryz.prog W = .ok (.value (.tuple #[.int .u64 (r : Int), .int .u64 (q : Int)])) W := fun W => by
        rw [run_Add64 x y c hc, ← hr, ← hq]
      have hst := wback_step (r := r) (c' := q) hkl HE.out (by rw [← hx, ← hy]; unfold B64; omega)
      have HST := Lib.hid hst
      have HR := Lib.hid hr64
      clear hst hx hy hr hq hr64 hx64 hy64
      go_wp2
      go_roundw
      case rel =>
        exact ⟨k + 1, q, rs.set k r, by omega, by go_num, rfl, hq1, Lib.hid (by have := HL.out; simpa using this), hrs.set _ _ HR.out, hdg.set _ _ hkl, Lib.hid (fun i hi => by rw [getD_set_other _ (by omega)]; exact HSM.out i (by omega)), HST, grown_set hgr _ _⟩
      case measure => simp [intOf]; omega
    · have hke : k = m := by omega
      subst hke
      have hkl : k < rs.length := by have := HL.out; omega
      have hcr := hdg.cell k hkl
      rw [HSM.out k (Nat.le_refl _)] at hcr
      have hfr := hdg.frozen (P.length + k)
      obtain ⟨x, hx⟩ : ∃ x, x = R.getD k 0 := ⟨_, rfl⟩
      have hx64 : x < 18446744073709551616 := by rw [hx]; exact hRs.at k
      rw [← hx] at hcr
      have hy0 : Y.getD k 0 = 0 := by rw [List.getD_eq_getElem?_getD, List.getElem?_eq_none (by have := HYl.out; omega)]; rfl
      obtain ⟨r, hr⟩ : ∃ t, t = (x + c) % 18446744073709551616 := ⟨_, rfl⟩
      obtain ⟨q, hq⟩ : ∃ t, t = (x + c) / 18446744073709551616 := ⟨_, rfl⟩
      have hq1 : q ≤ 1 := by omega
      have hr64 : r < 18446744073709551616 := by omega
      have ha : ∀ W, (callFunc 117 #[.int .u64 (x : Int), .int .u64 (c : Int), .int .u64 0]).run Tryz.prog W = .ok (.value (.tuple #[.int .u64 (r : Int), .int .u64 (q : Int)])) W := fun W => by
        rw [run_Add64z x c, ← hr, ← hq]
      have hst := wback_step (r := r) (c' := q) hkl HE.out (by rw [← hx, hy0]; unfold B64; omega)
      rw [dv_take_all _ _ _ (by have := HL.out; simp; omega), dv_take_all _ _ _ (by have := HRl.out; omega), dv_take_all _ _ _ (by have := HYl.out; omega), hmn] at hst
      have HST := Lib.hid hst
      have HR := Lib.hid hr64
      have HP := Lib.hid (show (rs.set k r).length = R.length ∧ R.length = n by have := HL.out; have := HRl.out; simp; omega)
      clear hst hx hr hq hr64 hx64 hy0
      rcases (show q = 0 ∨ q = 1 by omega) with rfl | rfl
      · go_wp2
        go_ret
        exact ⟨0, rs.set k r, by omega, rfl, ⟨HP.out.1, hrs.set _ _ HR.out, hdg.set _ _ hkl, grown_set hgr _ _⟩, by rw [HP.out.2]; exact HST.out⟩
      · go_wp2
        go_ret
        exact ⟨1, rs.set k r, by omega, rfl, ⟨HP.out.1, hrs.set _ _ HR.out, hdg.set _ _ hkl, grown_set hgr _ _⟩, by rw [HP.out.2]; exact HST.out⟩

end Go.Proofs.YtmiafkbjmkaebaaGreat
