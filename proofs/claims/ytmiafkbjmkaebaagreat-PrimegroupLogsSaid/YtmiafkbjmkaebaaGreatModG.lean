/-
  The contract of modular.divideStep: the words are turned into the remainder.
-/
import Derived.Test.YtmiafkbjmkaebaaGreatModF
import Derived.Deep.Cut
import Derived.Deep.RegionHeld3
namespace Go.Proofs.YtmiafkbjmkaebaaGreat
open Go.RowKit Num

theorem wdv_high1 (Y : List Nat) (p : Nat) (h : Y.length = p + 1) (hs : SmallW Y) : ∃ l, l < B64 ^ p ∧ dv B64 Y = Y.getD p 0 * B64 ^ p + l := by
  refine ⟨dv B64 (Y.take p), ?_, ?_⟩
  · have := (hs.take p).dv_lt
    rwa [List.length_take, Nat.min_eq_left (by omega)] at this
  · have := dv_take_next B64 Y p
    rw [dv_take_all _ _ _ (by omega)] at this
    rw [this, Nat.mul_comm, Nat.add_comm]
theorem wdv_high2 (R : List Nat) (p : Nat) (h : R.length = p + 2) (hs : SmallW R) : ∃ l, l < B64 ^ p ∧ dv B64 R = (R.getD (p + 1) 0 * B64 + R.getD p 0) * B64 ^ p + l := by
  refine ⟨dv B64 (R.take p), ?_, ?_⟩
  · have := (hs.take p).dv_lt
    rwa [List.length_take, Nat.min_eq_left (by omega)] at this
  · have h1 := dv_take_next B64 R p
    have h2 := dv_take_next B64 R (p + 1)
    rw [dv_take_all _ _ _ (by omega)] at h2
    rw [h2, h1, Nat.pow_succ]
    generalize R.getD (p + 1) 0 = a at *
    generalize R.getD p 0 = b at *
    generalize B64 ^ p = c at *
    rw [Nat.add_mul, Nat.mul_assoc a, Nat.mul_comm B64 c, Nat.mul_comm a, Nat.mul_comm b]
    omega
theorem wguess {R Y : List Nat} {p : Nat} (hR : R.length = p + 2) (hY : Y.length = p + 1) (hRs : SmallW R) (hYs : SmallW Y) (hv : 0 < Y.getD p 0) :
    dv B64 R / dv B64 Y ≤ (R.getD (p + 1) 0 * B64 + R.getD p 0) / Y.getD p 0 := by
  obtain ⟨l, _, hl2⟩ := wdv_high1 Y p hY hYs
  obtain ⟨m, hm1, hm2⟩ := wdv_high2 R p hR hRs
  rw [Nat.le_div_iff_mul_le hv]
  have h := Nat.div_mul_le_self (dv B64 R) (dv B64 Y)
  generalize dv B64 R / dv B64 Y = q at *
  rw [hl2, hm2] at h
  exact mul_lt_of_parts h hm1

/-- The number of n words in a block, as it is read off a world. -/
def wdv (w : World) (g o n : Nat) : Nat := dv B64 ((List.range n).map fun k => match w.cell? ⟨g, o + k, none⟩ with | some (.int _ x) => x.toNat | _ => 0)
theorem wdv_of {w : World} {g : Nat} {P S : List Value} {X : List Nat} (h : Wv w g P X S) : wdv w g P.length X.length = dv B64 X := by
  unfold wdv
  congr 1
  apply List.ext_getElem (by simp)
  intro k h1 h2
  simp only [List.getElem_map, List.getElem_range]
  rw [h.cell k h2]
  simp [List.getD_eq_getElem?_getD, List.getElem?_eq_getElem h2]

theorem back_next {r y rs rs' f b c q N : Nat} (hy : 0 < y) (hq : q = r / y) (hN : rs < N) (hle : q ≤ f) (h : rs + f * y = r + N * b) (hb : b = 1) (h2 : rs' + N * c = rs + y) (hc : c ≤ 1) :
    q ≤ f - 1 ∧ rs' + (f - 1) * y = r + N * (1 - c) ∧ (c = 0 → rs < rs') := by
  subst hb
  have h1 : ¬ f ≤ q := by
    intro hf
    rw [hq, Nat.le_div_iff_mul_le hy] at hf
    omega
  obtain ⟨e, rfl⟩ : ∃ e, f = e + 1 := ⟨f - 1, by omega⟩
  rw [Nat.add_mul, Nat.one_mul] at h
  refine ⟨by omega, ?_, ?_⟩
  · rw [Nat.add_sub_cancel]
    rcases (show c = 0 ∨ c = 1 by omega) with rfl | rfl
    · simp at h2 ⊢; omega
    · simp at h2 ⊢; omega
  · rintro rfl
    simp at h2; omega
theorem back_end {r y rs f q N : Nat} (hy : 0 < y) (hq : q = r / y) (hle : q ≤ f) (h : rs + f * y = r + N * 0) : rs = r % y := by
  have h1 : f ≤ q := by rw [hq, Nat.le_div_iff_mul_le hy]; omega
  have : f = q := by omega
  subst this
  have := Nat.div_add_mod r y
  rw [← hq, Nat.mul_comm] at this
  omega

/-- divideStep: the words are turned into the remainder. -/
def SteppedW (w : World) (g : Nat) (P S : List Value) (R Y : List Nat) (e : Ending) (w' : World) : Prop :=
  ∃ rs : List Nat, e = .returned (.tuple #[]) ∧ TurnedV w g P S R.length rs w' ∧ dv B64 rs = dv B64 R % dv B64 Y

set_option maxHeartbeats 1000000 in
set_option maxRecDepth 100000 in
theorem wstep_any (g o n m p cr ga oa cy : Nat) (P S : List Value) (R Y : List Nat) (w : World) (hg : Wv w g P R S) (hP : P.length = o) (hRs : SmallW R) (hY : IsW w (some ⟨ga, oa, none⟩) Y) (hAg : ga ≠ g) (hnm : n = m + 1) (hmp : m = p + 1) (hRl : R.length = n) (hYl : Y.length = m) (hn : n ≤ 1000)
    (hlt : dv B64 R < B64 * dv B64 Y) (hv : 9223372036854775808 ≤ Y.getD p 0) :
    Calls Tryz.prog 114 #[.slice (some ⟨g, o, none⟩) n cr, .slice (some ⟨ga, oa, none⟩) m cy] w (SteppedW w g P S R Y) := by
  subst hP
  obtain ⟨ga', oa', he, hga, hca⟩ := hY.2 (by omega)
  injection he with he
  injection he with he1 he2
  subst he1 he2
  have hGS := wguess (p := p) (by omega) (by omega) hRs hY.1 (by omega)
  obtain ⟨q, hq⟩ : ∃ q, q = dv B64 R / dv B64 Y := ⟨_, rfl⟩
  have hy0 : 0 < dv B64 Y := by
    rcases Nat.eq_zero_or_pos (dv B64 Y) with h0 | h0
    · rw [h0] at hlt; omega
    · exact h0
  have hqB : q < 18446744073709551616 := by
    rw [hq, Nat.div_lt_iff_lt_mul hy0]; exact hlt
  rw [← hq] at hGS
  have c1 := hg.cell m (by omega)
  have c0 := hg.cell p (by omega)
  have cy0 := hca p (by omega)
  obtain ⟨u1, hu1⟩ : ∃ u, u = R.getD m 0 := ⟨_, rfl⟩
  obtain ⟨u0, hu0⟩ : ∃ u, u = R.getD p 0 := ⟨_, rfl⟩
  obtain ⟨v, hvv⟩ : ∃ u, u = Y.getD p 0 := ⟨_, rfl⟩
  have l1 : u1 < 18446744073709551616 := by rw [hu1]; exact hRs.at _
  have l0 : u0 < 18446744073709551616 := by rw [hu0]; exact hRs.at _
  have lv : v < 18446744073709551616 := by rw [hvv]; exact hY.1.at _
  rw [← hmp, ← hu1] at hGS
  rw [← hu1] at c1
  rw [← hu0] at c0 hGS
  rw [← hvv] at cy0 hv hGS
  obtain ⟨N, hN⟩ : ∃ N, N = u1 * 18446744073709551616 + u0 := ⟨_, rfl⟩
  rw [show u1 * B64 + u0 = N from hN.symm] at hGS
  have HD := Lib.hid (fun (h : u1 < v) W => div64_any u1 u0 v N hN h l0 lv hv W)
  have HRl := Lib.hid hRl
  have HYl := Lib.hid hYl
  have HGS := Lib.hid hGS
  have HQ := Lib.hid hq
  have HL := Lib.hid (And.intro l1 (And.intro l0 (And.intro lv (And.intro hv (And.intro hN (And.intro hqB hy0))))))
  have HNM := Lib.hid (And.intro hnm hmp)
  have i1 : (m : Int) < (n : Int) := by omega
  have j0 : IntKind.i64.wrap ((m : Int) - 1) = (m : Int) - 1 := IntWalk.i64_in _ ⟨by omega, by omega⟩
  have j1 : 0 ≤ (m : Int) - 1 := by omega
  have j2 : (m : Int) - 1 < (n : Int) := by omega
  have j3 : (m : Int) - 1 < (m : Int) := by omega
  have j4 : ((m : Int) - 1).toNat = p := by omega
  have j5 : (1 : Int) ≤ (m : Int) := by omega
  have j6 : (m : Int) ≤ (n : Int) := by omega
  have j7 : 1 ≤ m := by omega
  have j8 : m ≤ n := by omega
  have j9 : 0 < m := by omega
  clear hnm hmp
  clear hu1 hu0 hvv hGS hRl hYl hq l1 l0 lv hN hv hqB hy0 hlt
  go_enter Tryz.func114, Tryz.ntmps114
  go_upto_if 18 with fail
  go_region
  go_upto_if 18 with fail
  go_cut [5] from 7 (fun x wx => ∃ F : Nat, x = .int .u64 (F : Int) ∧ Hid (q ≤ F ∧ F < 18446744073709551616) ∧ Below w.heap.size w wx)
  case first =>
    by_cases h : u1 < v
    · have HC := Lib.hid (HD.out h)
      have HF := Lib.hid (show q ≤ N / v ∧ N / v < 18446744073709551616 from ⟨HGS.out, by
        obtain ⟨a1, a0, av, hv, hN, _⟩ := HL.out
        rw [Nat.div_lt_iff_lt_mul (by omega), hN]
        have := Nat.mul_le_mul_left 18446744073709551616 (show u1 + 1 ≤ v from h)
        omega⟩)
      go_wp2_with fail
      have hgl := hg.lt
      go_region_held3 (fun w' => w'.cell? ⟨g, P.length + m, none⟩ = some (.int .u64 (u1 : Int)) ∧ w'.cell? ⟨g, P.length + p, none⟩ = some (.int .u64 (u0 : Int)) ∧ w'.cell? ⟨ga, oa + p, none⟩ = some (.int .u64 (v : Int)) ∧ Hid (Below w.heap.size w w')) (first | assumption | exact ⟨c1, c0, cy0, Lib.hid ((Below.refl _ _).drew.drew)⟩) ((go_at_call 132; refine (HC.out _).mono ?_; rintro e u3 ⟨rfl, hb⟩; obtain ⟨k1, k2, k3, hk⟩ := ‹_ ∧ _›; have hSx : u3.cell? ⟨g, P.length + m, none⟩ = some (.int .u64 (u1 : Int)) ∧ u3.cell? ⟨g, P.length + p, none⟩ = some (.int .u64 (u0 : Int)) ∧ u3.cell? ⟨ga, oa + p, none⟩ = some (.int .u64 (v : Int)) ∧ Hid (Below w.heap.size w u3) := ⟨(hb.cell (p := ⟨g, P.length + m, none⟩) (Nat.lt_of_lt_of_le hgl hk.out.size)).trans k1, (hb.cell (p := ⟨g, P.length + p, none⟩) (Nat.lt_of_lt_of_le hgl hk.out.size)).trans k2, (hb.cell (p := ⟨ga, oa + p, none⟩) (Nat.lt_of_lt_of_le hga hk.out.size)).trans k3, Lib.hid (hk.out.trans (hb.mono hk.out.size))⟩; clear hb k1 k2 k3 hk))
      all_goals
        go_wp2_with fail
        go_meet
        obtain ⟨_, _, _, hk⟩ := ‹_ ∧ _›
        exact ⟨N / v, by simp, HF, hk.out⟩
    · go_wp2_with fail
      go_meet
      exact ⟨18446744073709551615, rfl, Lib.hid ⟨by have := HL.out; omega, by omega⟩, (Below.refl _ _).drew⟩
  case rest =>
    obtain ⟨F, rfl, HF, hb⟩ := hcut
    have HY := hY.below hb
    replace hg := hg.below hb hg.lt
    have HT := Lib.hid (fun W (h1 : Wv W g P R S) (h2 : IsW W (some ⟨ga, oa, none⟩) Y) => wtimes_any g P.length n m cr ga oa cy F P S R Y W h1 rfl hRs h2 hAg HRl.out HYl.out (by omega) HNM.out.1.symm hn HF.out.2)
    go_wp2_with fail
    refine (HT.out _ hg HY).mono ?_
    rintro e w4 ⟨b, rs, hb1, rfl, ⟨hrl, hrs, hgr, hgw⟩, he⟩
    have HW := Lib.hid (grown_trans (grown_of_below hb (some g)) hgw)
    have HI := Lib.hid (show q ≤ F ∧ rs.length = n ∧ dv B64 rs + F * dv B64 Y = dv B64 R + B64 ^ n * b from ⟨HF.out.1, by rw [hrl]; exact HRl.out, by rw [← HRl.out]; exact he⟩)
    have hAp : Apart (some ⟨ga, oa, none⟩) g := fun a e => by cases e; exact hAg
    have HAp := Lib.hid hAp
    clear hb hgw hrl he HY hg HT c1 c0 cy0 hca j0 j1 j2 j3 j4 j5 j6 j7 j8 HD HGS hAp
    go_wp2_with fail
    go_loopw [6] (fun x wr => ∃ (b f : Nat) (rs : List Nat), x = .bool (b == 1) ∧ b ≤ 1 ∧ Hid (q ≤ f ∧ rs.length = n ∧ dv B64 rs + f * dv B64 Y = dv B64 R + B64 ^ n * b) ∧ SmallW rs ∧ Wv wr g P rs S ∧ Hid (w.grownBy wr (some g))) (fun x wr => match x with | .bool true => B64 ^ n - wdv wr g P.length n | _ => 0)
    case atStart => exact ⟨b, F, rs, rfl, hb1, HI, hrs, hgr, HW⟩
    case round =>
      clear HI HW hrs hgr
      obtain ⟨b, f, rs, rfl, hb, HI, hrs, hv, HW⟩ := hrel
      rcases (show b = 0 ∨ b = 1 by omega) with rfl | rfl
      · have HE := Lib.hid (show dv B64 rs = dv B64 R % dv B64 Y from back_end HL.out.2.2.2.2.2.2 HQ.out HI.out.1 HI.out.2.2)
        have HR := Lib.hid (show rs.length = R.length by rw [HI.out.2.1]; exact HRl.out.symm)
        go_wp2
        go_end0
        exact ⟨rs, rfl, ⟨HR.out, hrs, hv, HW.out⟩, HE.out⟩
      · have HT := Lib.hid (wback_any g P.length n m cr ga oa cy P S rs Y wr hv rfl hrs (hY.grown HW.out HAp.out) hAg HI.out.2.1 HYl.out j9 HNM.out.1.symm hn)
        go_wp2_with fail
        refine HT.out.mono ?_
        rintro e w5 ⟨c, rs', hc1, rfl, ⟨hrl, hrs', hgr, hgw⟩, he⟩
        have hlt : dv B64 rs < B64 ^ n := by have := hrs.dv_lt; rwa [HI.out.2.1] at this
        rw [HI.out.2.1] at he
        obtain ⟨n1, n2, n3⟩ := back_next HL.out.2.2.2.2.2.2 HQ.out hlt HI.out.1 HI.out.2.2 rfl he hc1
        have HI2 := Lib.hid (show q ≤ f - 1 ∧ rs'.length = n ∧ dv B64 rs' + (f - 1) * dv B64 Y = dv B64 R + B64 ^ n * (1 - c) from ⟨n1, by rw [hrl]; exact HI.out.2.1, n2⟩)
        have HW2 := Lib.hid (grown_trans HW.out hgw)
        have m1 : wdv wr g P.length n = dv B64 rs := by rw [← HI.out.2.1]; exact wdv_of hv
        have m2 : wdv w5 g P.length n = dv B64 rs' := by rw [← HI2.out.2.1]; exact wdv_of hgr
        have HM := Lib.hid (And.intro m1 (And.intro m2 (And.intro hlt n3)))
        clear n1 n2 n3 m1 m2 hlt he hgw hrl HT
        rcases (show c = 0 ∨ c = 1 by omega) with rfl | rfl
        · go_wp2
          go_roundw
          case rel => exact ⟨1, f - 1, rs', rfl, by omega, HI2, hrs', hgr, HW2⟩
          case measure =>
            obtain ⟨m1, m2, hlt, n3⟩ := HM.out
            have := n3 trivial
            simp only [m1, m2]
            show B64 ^ n - dv B64 rs' < B64 ^ n - dv B64 rs
            omega
        · go_wp2
          go_roundw
          case rel => exact ⟨0, f - 1, rs', rfl, by omega, HI2, hrs', hgr, HW2⟩
          case measure =>
            obtain ⟨m1, m2, hlt, n3⟩ := HM.out
            simp only [m1]
            show 0 < B64 ^ n - dv B64 rs
            omega

end Go.Proofs.YtmiafkbjmkaebaaGreat
