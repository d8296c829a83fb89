/-
  The contract of natural.Text for canonical arguments.
-/
import Derived.Test.YtbkbjjdjgiapdaaRev
import Derived.Test.YtbkbjjdjgiapdaaNum
import Derived.Test.YtbkbjjdjgiapdaaDig
import Derived.Test.YtbkbjjdjgiapdaaNatA
import Derived.Test.YtbkbjjdjgiapdaaNatD
namespace Go.Proofs.Ytbkbjjdjgiapdaa
open Go.RowKit Num

def textOf (n : Nat) : ByteArray := ⟨(dtext n).toArray⟩

/-- After i digits have come out of a number. -/
def lowDig (a k : Nat) : Nat := a / 10 ^ k
theorem low_next (a k : Nat) : lowDig a (k + 1) = lowDig a k / 10 := by
  unfold lowDig; rw [Nat.pow_succ, Nat.div_div_eq_div_mul]
theorem group_dig {a k i r : Nat} (hr : r = lowDig a k % 1000000000 / 10 ^ i) (hi : i < 9) : r % 10 = lowDig a (k + i) % 10 := by
  have e : lowDig a (k + i) = lowDig a k / 10 ^ i := by unfold lowDig; rw [Nat.pow_add, Nat.div_div_eq_div_mul]
  rw [hr, e]
  have : i = 0 ∨ i = 1 ∨ i = 2 ∨ i = 3 ∨ i = 4 ∨ i = 5 ∨ i = 6 ∨ i = 7 ∨ i = 8 := by omega
  generalize lowDig a k = V
  rcases this with rfl | rfl | rfl | rfl | rfl | rfl | rfl | rfl | rfl <;> simp <;> omega
theorem group_next {a k : Nat} : lowDig a k / 1000000000 = lowDig a (k + 9) := by
  unfold lowDig; rw [Nat.pow_add, ← Nat.div_div_eq_div_mul]
theorem owns_take {w : World} {base g n m cap : Nat} {l : List UInt8} (h : w.ownsRow base 5 1 (.slice (some ⟨g, 0, none⟩) n cap) n (cellsB l)) (hm : m ≤ n) : w.ownsRow base 5 1 (.slice (some ⟨g, 0, none⟩) m cap) m (cellsB (l.take m)) := by
  obtain ⟨h1, h2⟩ := h
  have hl : l.length = n := by simpa [cellsB_length] using h1
  rcases h2 with ⟨h3, _⟩ | ⟨g', cap', cur, hv, hb, hh, hnc, hcm, hcs, ht⟩
  · cases h3
  · injection hv with e1 e2 e3
    injection e1 with e1
    injection e1 with e1
    subst e1
    subst e3
    refine ⟨by rw [cellsB_length, List.length_take]; omega, .inr ⟨g, cap, cur, rfl, hb, hh, by omega, hcm, hcs, ?_⟩⟩
    have : (cellsB l).take (m * 1) = cellsB (l.take m) := by simp [cellsB]
    rw [← this, ← ht, List.take_take, Nat.min_eq_left (by omega)]

theorem own_ne {w : World} {base n g : Nat} {v : Value} {xs : List Value} {ds : List Nat} (h : w.ownsRow base 5 1 v n xs) (hd : Dg w g ds) : v.ownBlock ≠ some g := by
  rcases h.2 with ⟨rfl, _⟩ | ⟨g', cap, cur, rfl, _, hh, _⟩
  · simp [Value.ownBlock]
  · intro e
    have e2 : g' = g := by simpa [Value.ownBlock] using e
    subst e2
    unfold Dg at hd
    rw [hh] at hd
    injection hd with hd
    injection hd with _ ht
    exact absurd ht (by decide)
def sliceLen (v : Value) : Nat := match v with
  | .slice _ n _ => n
  | _ => 0
def E309 : Nat := 309
theorem top_dec : Top < 10 ^ E309 := by decide +kernel
theorem low_pos {a k : Nat} (ha : a < Top) (h : lowDig a k ≠ 0) : k < 309 := by
  apply Decidable.byContradiction
  intro hc
  apply h
  unfold lowDig
  refine Nat.div_eq_of_lt (Nat.lt_of_lt_of_le ha (Nat.le_trans (Nat.le_of_lt top_dec) (Nat.pow_le_pow_right (by decide) ?_)))
  unfold E309
  omega
theorem digit_byte10 (d : Nat) (h : d < 10) : ((UInt8.ofNat (48 + d)).toNat : Int) = 48 + (d : Int) := by rw [UInt8.toNat_ofNat']; omega
theorem new_cell {wr : World} (C : Array Value) (u : Value) (t : TypeId) (hC : C[0]? = some u) : ∀ (j : Nat) (v : Value), [u][j]? = some v → (wr.alloc (.cells C t)).cell? (Addr.add ⟨wr.heap.size, 0, none⟩ j) = some v := by
  intro j v hj
  match j, hj with
  | 0, hj =>
    simp at hj; subst hj
    rw [show Addr.add ⟨wr.heap.size, 0, none⟩ 0 = ⟨wr.heap.size, 0, none⟩ from rfl, World.cell?_alloc_mark]
    exact hC
theorem one_cell (k : IntKind) (n : Int) : ∀ u ∈ [Value.int k n], u.oneCell' = true := by intro u hu; simp at hu; subst hu; rfl

set_option maxHeartbeats 1000000 in
set_option maxRecDepth 100000 in
theorem text_zero (w : World) :
    Calls Try.prog 16 #[.string (bs 0)] w (Same w (.tuple #[.string (textOf 0), .int .i64 0])) := by
  have he : (bs 0).toList.isEmpty = true := by rw [bs_isEmpty]; rfl
  have HT := Lib.hid (show textOf 0 = ⟨#[48]⟩ from by unfold textOf; rw [dtext_zero])
  go_enter Try.func16, Try.ntmps16
  go_wp2_with (go_at_call 53; refine (valid_yes (show 0 < Top by unfold Top; decide) _).mono ?_; rintro e w' ⟨rfl, rfl⟩)
  go_ret2
  exact ⟨by rw [HT.out]; rfl, rfl⟩

set_option maxHeartbeats 1000000 in
set_option maxRecDepth 100000 in
theorem text_pos {a : Nat} (ha : a < Top) (h0 : a ≠ 0) (w : World) :
    Calls Try.prog 16 #[.string (bs a)] w (Made w (.tuple #[.string (textOf a), .int .i64 0])) := by
  obtain ⟨i0, hi0, hz0, hz1, hz2⟩ := info_parts info_u8
  have he : (bs a).toList.isEmpty = false := by rw [bs_isEmpty]; simpa using h0
  have h1 := dlen_le ha
  have HA := Lib.hid ha
  have H0 := Lib.hid h0
  clear ha h0
  go_enter Try.func16, Try.ntmps16
  go_wp2_with fail
  refine (valid_yes HA.out _).mono ?_
  rintro e w' ⟨rfl, rfl⟩
  go_wp2_with fail
  refine (digitsof_any a _ HA.out).mono ?_
  rintro e w1 ⟨xs, rfl, hxl, hxs, hxd, hxv, hbx⟩
  have hx32 : xs.length ≤ 32 := by omega
  have HXV := Lib.hid hxv
  have HXT := Lib.hid (trim_digits hxl hxs hxv)
  clear hxl hxv
  go_wp2
  go_loopw [4, 5] (fun v u wr => ∃ (j c : Nat) (A : Option Addr) (zs : List Nat), u = .slice A zs.length c ∧ zs.length ≤ c ∧ zs.length ≤ 32 ∧ IsD wr A zs ∧ Trim zs ∧ Hid (dv B32 zs = lowDig a (9 * j)) ∧ 9 * j ≤ 400 ∧ wr.ownsRow w.heap.size 5 1 v (9 * j) (cellsB (ldk (9 * j) a)) ∧ Below w.heap.size w wr) (fun v _ _ => 1000 - sliceLen v)
  case atStart => exact ⟨0, xs.length, _, xs, rfl, Nat.le_refl _, hx32, IsD.of_dg hxd hxs, HXT.out, Lib.hid (by rw [HXV.out]; simp [lowDig]), by omega, World.ownsRow_nil _ _ _ _, hbx⟩
  case round =>
    clear hxs hxd hbx
    obtain ⟨j, c, A, zs, rfl, hzc, hz32, hzI, hzT, HV, hj, hown, hbel⟩ := hrel
    obtain ⟨A1, cap, rfl⟩ := owns_form hown
    by_cases hlt : 0 < zs.length
    · have hV0 : lowDig a (9 * j) ≠ 0 := by
        rw [← HV.out]
        have h1 := trim_ge hzT hlt
        have h2 : 0 < B32 ^ (zs.length - 1) := Nat.pow_pos (by decide)
        omega
      have hj2 := low_pos HA.out hV0
      go_wp2_with fail
      refine (short_any A zs c 1000000000 _ hzI (by decide) (by decide) (by omega)).mono ?_
      rintro e w2 ⟨qs, rfl, hql, hqs, hqd, hqv, hb2⟩
      rw [HV.out] at hqv ⊢
      rw [group_next] at hqv
      have hq32 : qs.length ≤ 32 := by omega
      have HQV := Lib.hid hqv
      have hown2 : w2.ownsRow w.heap.size 5 1 (.slice A1 (9 * j) cap) (9 * j) (cellsB (ldk (9 * j) a)) := hown.kept (grown_of_below hb2 none) (by
        rcases hg : Value.ownBlock (.slice A1 (9 * j) cap) with _ | g
        · exact .inl rfl
        · exact .inr (by simp))
      have hbel2 := hbel.trans (hb2.mono hbel.size)
      obtain ⟨r0, hr0⟩ : ∃ r0, r0 = lowDig a (9 * j) % 1000000000 := ⟨_, rfl⟩
      have hr0l : r0 < 1000000000 := by omega
      rw [← hr0]
      have HR0 := Lib.hid hr0
      obtain ⟨gq, hgq⟩ : ∃ gq, gq = wr.heap.size := ⟨_, rfl⟩
      rw [← hgq] at hqd
      have HGQ := Lib.hid hgq
      clear hql hqv hV0 hr0 hgq
      go_wp2
      obtain ⟨wo, rfl⟩ : ∃ wo : World, wo = w2 := ⟨_, rfl⟩
      go_loopw [4, 7, 23] (fun v u c wr => ∃ (i r : Nat), i ≤ 9 ∧ c = .int .i64 i ∧ u = .int .u32 r ∧ r < 1000000000 ∧ Hid (r = lowDig a (9 * j) % 1000000000 / 10 ^ i) ∧ wr.ownsRow w.heap.size 5 1 v (9 * j + i) (cellsB (ldk (9 * j + i) a)) ∧ Dg wr gq qs ∧ Below w.heap.size w wr) (fun _ _ c _ => 9 - (intOf c).toNat)
      case atStart => exact ⟨0, r0, by omega, rfl, rfl, hr0l, Lib.hid (by rw [HR0.out]; simp), hown2, hqd, hbel2⟩
      case round =>
        clear hown2 hqd hbel2 hr0l HR0 hown hbel
        obtain ⟨i, r, hi, rfl, rfl, hr, HR, hown, hqd, hbel⟩ := hrel
        obtain ⟨A2, cap2, rfl⟩ := owns_form hown
        by_cases hli : i < 9
        · have hdig := group_dig HR.out hli
          obtain ⟨d, hd⟩ : ∃ d, d = r % 10 := ⟨_, rfl⟩
          have hd10 : d < 10 := by omega
          have hdi : (r : Int) % 10 = (d : Int) := by omega
          have hbase := hbel.size
          have HDB := Lib.hid (digit_byte10 d hd10)
          have HSN := Lib.hid (show ldk (9 * j + i + 1) a = ldk (9 * j + i) a ++ [UInt8.ofNat (48 + d)] by rw [ldk_snoc, hd, hdig]; rfl)
          have HRN : Hid (r / 10 = lowDig a (9 * j) % 1000000000 / 10 ^ (i + 1)) := Lib.hid (by rw [HR.out, Nat.pow_succ, Nat.div_div_eq_div_mul])
          have HNE := Lib.hid (own_ne hown hqd)
          have HNC := Lib.hid (new_cell (wr := wr) #[.int .u8 (48 + (d : Int))] (.int .u8 (48 + (d : Int))) 5 rfl)
          have HON := Lib.hid (one_cell .u8 (48 + (d : Int)))
          clear hdig hd
          go_wp2_with (at_builtin; go_loud (refine wpList_append_own _ rfl _ _ 77 rfl w.heap.size 5 i0 (.int .u8 0) 1 1 Try.underlying77 hi0 hz0 hz1 hz2 rfl (by decide) _ _ _ rfl (hown.alloc _) ⟨wr.heap.size, 0, none⟩ 1 1 [.int .u8 (48 + (d : Int))] rfl rfl HNC.out HON.out (by unfold maxLen; omega) (by omega) (by simp; omega) ?_); intro v1 w3 hown1 hg1 _; have hbel1 := (hbel.alloc hbel.size (.cells #[.int .u8 (48 + (d : Int))] 5)).grown hg1 (by simp; omega) (fun g hg => (hown.lt g hg).1); have hqd1 := (hqd.alloc (.cells #[.int .u8 (48 + (d : Int))] 5)).kept hg1 (fun e => HNE.out e.symm))
          go_wp2
          go_roundw
          case rel => exact ⟨i + 1, r / 10, by omega, by go_num, by go_num, by omega, HRN, by rw [← Nat.add_assoc, HSN.out, cellsB_snoc, HDB.out]; exact hown1, hqd1, hbel1⟩
          case measure => simp [intOf]; omega
        · have hi9 : i = 9 := by omega
          subst hi9
          have hq32' : qs.length ≤ 1048576 := by omega
          have hown9 : wr.ownsRow w.heap.size 5 1 (.slice A2 (9 * (j + 1)) cap2) (9 * (j + 1)) (cellsB (ldk (9 * (j + 1)) a)) := hown
          have hqd' := hqd
          rw [HGQ.out] at hqd'
          go_wp2_with fail
          refine (trim_any _ qs qs.length _ (IsD.of_dg hqd' hqs) (Nat.le_refl _) hq32').mono ?_
          rintro e w' ⟨m, hm1, hm2, hm3, rfl, rfl⟩
          have hml : (qs.take m).length = m := by rw [List.length_take]; omega
          have HML := Lib.hid hml
          have HM3 := Lib.hid hm3
          have hqI := (IsD.of_dg hqd' hqs).take m
          have HTR : Hid (Trim (qs.take m)) := Lib.hid (by
            rcases hm2 with h | h
            · left; rw [h]; rfl
            · rcases Nat.eq_zero_or_pos m with h0 | h0
              · left; rw [h0]; rfl
              · right; rw [hml, getD_take (by omega)]; exact h)
          clear hml hm2 hm3 hqd'
          go_wp2
          go_roundw
          case rel => exact ⟨j + 1, qs.length, _, qs.take m, by rw [HML.out], by rw [HML.out]; exact hm1, by rw [HML.out]; omega, hqI, HTR.out, Lib.hid (by rw [HM3.out, HQV.out]; rfl), by omega, hown9, hbel⟩
          case measure => show 1000 - (9 * j + 9) < 1000 - 9 * j; omega
    · have hz0' : zs = [] := List.length_eq_zero_iff.1 (by omega)
      have hV0 : lowDig a (9 * j) = 0 := by rw [← HV.out, hz0']; rfl
      have hlt2 : a < 10 ^ (9 * j) := by
        unfold lowDig at hV0
        rcases Nat.lt_or_ge a (10 ^ (9 * j)) with g | g
        · exact g
        · have := (Nat.le_div_iff_mul_le (Nat.pow_pos (by decide : 0 < 10) (n := 9 * j))).2 (by rw [Nat.one_mul]; exact g)
          omega
      have hdn := dn_le hlt2
      have hdp : 0 < dn a := by rw [dn_pos H0.out]; omega
      obtain ⟨g, cap', rfl, hgb, hglt⟩ : ∃ g cap', A1 = some ⟨g, 0, none⟩ ∧ w.heap.size ≤ g ∧ cap' = cap := by
        rcases hown.2 with ⟨_, h3⟩ | ⟨g, cap', cur, hv, hb, _⟩
        · omega
        · injection hv with h1 h2 h3
          exact ⟨g, cap', h1, hb, h3.symm⟩
      have hcapn : 9 * j ≤ cap := by
        rcases hown.2 with ⟨h3, _⟩ | ⟨g', cap'', cur, hv, _, _, hnc, _⟩
        · cases h3
        · injection hv with _ _ h3
          omega
      have HZL : Hid (zs.length = 0) := Lib.hid (by rw [hz0']; rfl)
      have HOWN := Lib.hid hown
      clear hz0' hV0 hlt2 hglt HV hown
      go_wp2
      go_loop [4] (fun v => ∃ m : Nat, dn a ≤ m ∧ m ≤ 9 * j ∧ v = .slice (some ⟨g, 0, none⟩) m cap) (fun v => sliceLen v)
      case atStart => exact ⟨9 * j, hdn, Nat.le_refl _, rfl⟩
      case round =>
        obtain ⟨m, hm1, hm2, rfl⟩ := hrel
        obtain ⟨k, rfl⟩ : ∃ k, m = k + 1 := ⟨m - 1, by omega⟩
        have hcell := HOWN.out.cellAt k (by omega)
        rw [cellsB_get _ k (by rw [ldk_length]; omega), ldk_get _ _ _ (by omega)] at hcell
        obtain ⟨d, hd⟩ : ∃ d, d = a / 10 ^ k % 10 := ⟨_, rfl⟩
        have hd10 : d < 10 := by omega
        rw [← hd, digit_byte10 d hd10] at hcell
        by_cases hgt : dn a ≤ k
        · have hd0 : d = 0 := by rw [hd]; exact dig_zero hgt
          subst hd0
          clear hd
          go_wp2
          go_round
          case rel => exact ⟨k, hgt, by omega, rfl⟩
          case measure => show k < k + 1; omega
        · have hke : dn a = k + 1 := by omega
          have hdt : d ≠ 0 := by
            have := dig_top H0.out
            rw [hke, Nat.add_sub_cancel, ← hd] at this
            exact this
          have ht : ((48 : Int) + (d : Int) == 48) = false := by
            rw [beq_eq_false_iff_ne]; omega
          have HKE := Lib.hid hke
          have ho2 := owns_take HOWN.out (m := k + 1) (by omega)
          rw [ldk_take _ _ _ (by omega)] at ho2
          clear hd hke hdn hdp hm1
          go_wp2_with fail
          refine (rev_any _ g (k + 1) cap _ _ ho2 (ldk_length _ _) (by omega) (by omega)).mono ?_
          rintro e w5 ⟨rfl, hown5, hgr5⟩
          have hlen : (ldk (k + 1) a).reverse.length = k + 1 := by rw [List.length_reverse, ldk_length]
          have hown6 : w5.ownsRow w.heap.size 5 1 (.slice (some ⟨g, 0, none⟩) (k + 1) cap) (ldk (k + 1) a).reverse.length (cellsB (ldk (k + 1) a).reverse) := by rw [hlen]; exact hown5
          have hcv := owns_string (P := Try.prog) (src := 77) (dst := 9) hown6 Try.underlying77 Try.underlying5 Try.underlying9
          have HFIN : Hid ((⟨(ldk (k + 1) a).reverse.toArray⟩ : ByteArray) = textOf a) := Lib.hid (by unfold textOf; rw [dtext_pos H0.out, HKE.out])
          clear hlen hown6 hown5 ho2
          go_wp2
          go_ret2
          exact ⟨by rw [← HFIN.out]; rfl, hbel.grown hgr5 hbel.size (fun k hk => by cases hk; exact hgb)⟩
end Go.Proofs.Ytbkbjjdjgiapdaa
