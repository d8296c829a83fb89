/-
  The contract of modular.product.
-/
import Derived.Test.YtmiafkbjmkaebaaGreatModG
import Derived.Test.YtmiafkbjmkaebaaGreatModB
namespace Go.Proofs.YtmiafkbjmkaebaaGreat
open Go.RowKit Num

theorem dv_set_any (B : Nat) (cs : List Nat) (k r : Nat) (hk : k < cs.length) : dv B (cs.set k r) + B ^ k * cs.getD k 0 = dv B cs + B ^ k * r := by
  have h1 := dv_set_add B (cs.set k 0) k r (by simpa using hk)
  have h2 := dv_set_add B (cs.set k 0) k (cs.getD k 0) (by simpa using hk)
  have e0 : (cs.set k 0).getD k 0 = 0 := by simp [List.getD_eq_getElem?_getD, hk]
  rw [e0, Nat.zero_add, List.set_set] at h1 h2
  have e1 : cs.set k (cs.getD k 0) = cs := by
    rw [List.getD_eq_getElem?_getD, List.getElem?_eq_getElem hk]; simp
  rw [e1] at h2
  omega
theorem prod_word (x y c z : Nat) (hx : x < 18446744073709551616) (hy : y < 18446744073709551616) (hc : c < 18446744073709551616) (hz : z < 18446744073709551616) :
    x * y / 18446744073709551616 + (x * y % 18446744073709551616 + c) / 18446744073709551616 < 18446744073709551616 ∧
    x * y / 18446744073709551616 + (x * y % 18446744073709551616 + c) / 18446744073709551616 + (z + (x * y % 18446744073709551616 + c) % 18446744073709551616) / 18446744073709551616 < 18446744073709551616 ∧
    x * y + c + z = (z + (x * y % 18446744073709551616 + c) % 18446744073709551616) % 18446744073709551616 + 18446744073709551616 * (x * y / 18446744073709551616 + (x * y % 18446744073709551616 + c) / 18446744073709551616 + (z + (x * y % 18446744073709551616 + c) % 18446744073709551616) / 18446744073709551616) := by
  have h : x * y ≤ 18446744073709551615 * 18446744073709551615 := Nat.mul_le_mul (by omega) (by omega)
  generalize x * y = t at *
  omega
theorem prod_step {cs X Y : List Nat} {i j x c r c' : Nat} (hc : i + j < cs.length) (h : dv B64 cs + B64 ^ (i + j) * c = dv B64 (X.take i) * dv B64 Y + B64 ^ i * x * dv B64 (Y.take j))
    (hm : x * Y.getD j 0 + c + cs.getD (i + j) 0 = r + B64 * c') :
    dv B64 (cs.set (i + j) r) + B64 ^ (i + (j + 1)) * c' = dv B64 (X.take i) * dv B64 Y + B64 ^ i * x * dv B64 (Y.take (j + 1)) := by
  have h1 := dv_set_any B64 cs (i + j) r hc
  rw [dv_take_next, Nat.mul_add]
  have e2 : B64 ^ i * x * (B64 ^ j * Y.getD j 0) = B64 ^ (i + j) * (x * Y.getD j 0) := by rw [Nat.pow_add]; grind
  have e3 : B64 ^ (i + j) * (x * Y.getD j 0) + B64 ^ (i + j) * c + B64 ^ (i + j) * cs.getD (i + j) 0 = B64 ^ (i + j) * r + B64 ^ (i + (j + 1)) * c' := by
    rw [← Nat.mul_add, ← Nat.mul_add, hm, Nat.mul_add, show i + (j + 1) = i + j + 1 from by omega, Nat.pow_succ, Nat.mul_assoc]
  rw [e2]
  omega
theorem prod_next {cs X Y : List Nat} {i x c : Nat} (hx : x = X.getD i 0) (hc : i + Y.length < cs.length) (h0 : cs.getD (i + Y.length) 0 = 0) (h : dv B64 cs + B64 ^ (i + Y.length) * c = dv B64 (X.take i) * dv B64 Y + B64 ^ i * x * dv B64 (Y.take Y.length)) :
    dv B64 (cs.set (i + Y.length) c) = dv B64 (X.take (i + 1)) * dv B64 Y := by
  have h1 := dv_set_any B64 cs (i + Y.length) c hc
  rw [h0, Nat.mul_zero, Nat.add_zero] at h1
  rw [h1, h, List.take_length, dv_take_next, Nat.add_mul, hx]

set_option maxHeartbeats 1000000 in
set_option maxRecDepth 100000 in
theorem wproduct_any (ga oa ca gb ob cb a b : Nat) (X Y : List Nat) (w : World) (hX : IsW w (some ⟨ga, oa, none⟩) X) (hY : IsW w (some ⟨gb, ob, none⟩) Y) (ha : X.length = a) (hb : Y.length = b) (ha1 : 0 < a) (hb1 : 0 < b) (ham : a ≤ 200) (hbm : b ≤ 200) :
    Calls Tryz.prog 90 #[.slice (some ⟨ga, oa, none⟩) a ca, .slice (some ⟨gb, ob, none⟩) b cb] w (MadeW w (a + b + 1) (dv B64 X * dv B64 Y)) := by
  obtain ⟨i0, hi0, hz0, hz1, hz2⟩ := info_parts info_u64
  obtain ⟨_, _, he, hga, hca⟩ := hX.2 (by omega)
  injection he with he
  injection he with he1 he2
  subst he1 he2
  obtain ⟨_, _, he, hgb, hcb⟩ := hY.2 (by omega)
  injection he with he
  injection he with he1 he2
  subst he1 he2
  obtain ⟨n, hn⟩ : ∃ n, n = a + b + 1 := ⟨_, rfl⟩
  have hni : (a : Int) + (b : Int) + 1 = (n : Int) := by omega
  have HN := Lib.hid hn
  have HA := Lib.hid ha
  have HB := Lib.hid hb
  have hnl : n ≤ 401 := by omega
  have HCA := Lib.hid hca
  have HCB := Lib.hid hcb
  rw [← hn]
  clear hn ha hb hca hcb
  go_enter Tryz.func90, Tryz.ntmps90
  go_wp2_with (at_make; refine wpList_make_full _ rfl _ _ 79 rfl w.heap.size 61 i0 (.int .u64 0) 1 Tryz.underlying79 hi0 hz0 hz1 _ _ _ _ n rfl rfl (by omega) (by omega) (by rw [hz2]; omega) (by unfold maxLen; omega) (Nat.le_refl _) ?_; intro w0 hown0 hgrow0)
  have hb0 : Below w.heap.size w w0 := (Below.refl _ _).grown hgrow0 (Nat.le_refl _) (fun g hg => by cases hg)
  rw [madeW] at hown0
  have hd0 := Wg.of_own hown0
  clear hown0 hgrow0
  go_loopw [23] (fun x wr => ∃ (i : Nat) (cs : List Nat), i ≤ a ∧ x = .int .i64 i ∧ Hid (cs.length = n) ∧ SmallW cs ∧ Wg wr w.heap.size cs ∧ Hid (∀ k, i + b ≤ k → cs.getD k 0 = 0) ∧ Hid (dv B64 cs = dv B64 (X.take i) * dv B64 Y) ∧ Below w.heap.size w wr) (fun x _ => a - (intOf x).toNat)
  case atStart => exact ⟨0, _, Nat.zero_le _, rfl, Lib.hid List.length_replicate, SmallW.replicate _, hd0, Lib.hid (fun k _ => by rw [List.getD_eq_getElem?_getD, List.getElem?_replicate]; split <;> rfl), Lib.hid (by rw [dv_replicate]; simp [dv]), hb0⟩
  case round =>
    clear hd0 hb0
    obtain ⟨i, cs, hi, rfl, HL, hcs, hcg, HZ, HE, hbel⟩ := hrel
    by_cases hlt : i < a
    · obtain ⟨x, hxd⟩ : ∃ x, x = X.getD i 0 := ⟨_, rfl⟩
      have hx64 : x < 18446744073709551616 := by rw [hxd]; exact hX.1.at i
      have hcx := (hbel.cell (p := ⟨ga, oa + i, none⟩) hga).trans (HCA.out i (by have := HA.out; omega))
      rw [← hxd] at hcx
      have HXD := Lib.hid hxd
      have HX64 := Lib.hid hx64
      clear hxd hx64
      go_wp2_with fail
      clear hcx
      have HIH := Lib.hid (show i < a from hlt)
      go_loopw [8, 30] (fun y x' wr => ∃ (j c : Nat) (cs : List Nat), j ≤ b ∧ x' = .int .i64 j ∧ y = .int .u64 c ∧ Hid (c < 18446744073709551616) ∧ Hid (cs.length = n) ∧ SmallW cs ∧ Wg wr w.heap.size cs ∧ Hid (∀ k, i + b ≤ k → cs.getD k 0 = 0) ∧ Hid (dv B64 cs + B64 ^ (i + j) * c = dv B64 (X.take i) * dv B64 Y + B64 ^ i * x * dv B64 (Y.take j)) ∧ Below w.heap.size w wr) (fun _ x' _ => b - (intOf x').toNat)
      case atStart => exact ⟨0, 0, cs, Nat.zero_le _, rfl, rfl, Lib.hid (by decide), HL, hcs, hcg, HZ, Lib.hid (by rw [HE.out]; simp [dv]), hbel⟩
      case round =>
        clear HL hcs hcg HZ HE hbel
        clear cs
        obtain ⟨j, c, cs, hj, rfl, rfl, HC, HL, hcs, hcg, HZ, HE, hbel⟩ := hrel
        have hia := HIH.out
        by_cases hlj : j < b
        · obtain ⟨y, hyd⟩ : ∃ y, y = Y.getD j 0 := ⟨_, rfl⟩
          have hy64 : y < 18446744073709551616 := by rw [hyd]; exact hY.1.at j
          have hcy := (hbel.cell (p := ⟨gb, ob + j, none⟩) hgb).trans (HCB.out j (by have := HB.out; omega))
          rw [← hyd] at hcy
          have hkl : i + j < cs.length := by have := HL.out; have := HN.out; omega
          obtain ⟨z, hzd⟩ : ∃ z, z = cs.getD (i + j) 0 := ⟨_, rfl⟩
          have hz64 : z < 18446744073709551616 := by rw [hzd]; exact hcs.at _
          have hcz := hcg.cell (i + j) hkl
          rw [← hzd] at hcz
          have hfr := hcg.frozen (i + j)
          have hpw := prod_word x y c z HX64.out hy64 HC.out hz64
          obtain ⟨hi, hhi⟩ : ∃ t, t = x * y / 18446744073709551616 := ⟨_, rfl⟩
          obtain ⟨lo, hlo⟩ : ∃ t, t = x * y % 18446744073709551616 := ⟨_, rfl⟩
          rw [← hhi, ← hlo] at hpw
          obtain ⟨l2, hl2⟩ : ∃ t, t = (lo + c) % 18446744073709551616 := ⟨_, rfl⟩
          obtain ⟨c2, hc2⟩ : ∃ t, t = (lo + c) / 18446744073709551616 := ⟨_, rfl⟩
          rw [← hl2, ← hc2] at hpw
          obtain ⟨r, hr⟩ : ∃ t, t = (z + l2) % 18446744073709551616 := ⟨_, rfl⟩
          obtain ⟨c3, hc3⟩ : ∃ t, t = (z + l2) / 18446744073709551616 := ⟨_, rfl⟩
          rw [← hr, ← hc3] at hpw
          have hr64 : r < 18446744073709551616 := by omega
          have CM := Lib.hid (fun W => by
            have := mul64_any x y HX64.out hy64 W
            rw [← hhi, ← hlo] at this
            exact this : ∀ W, Calls Tryz.prog 116 #[.int .u64 (x : Int), .int .u64 (y : Int)] W (Same W (.tuple #[.int .u64 (hi : Int), .int .u64 (lo : Int)])))
          have hA1 : ∀ W, (callFunc 117 #[.int .u64 (lo : Int), .int .u64 (c : Int), .int .u64 0]).run Tryz.prog W = .ok (.value (.tuple #[.int .u64 (l2 : Int), .int .u64 (c2 : Int)])) W := fun W => by
            rw [run_Add64z, ← hl2, ← hc2]
          have hA2 : ∀ W, (callFunc 117 #[.int .u64 (z : Int), .int .u64 (l2 : Int), .int .u64 0]).run Tryz.prog W = .ok (.value (.tuple #[.int .u64 (r : Int), .int .u64 (c3 : Int)])) W := fun W => by
            rw [run_Add64z, ← hr, ← hc3]
          obtain ⟨car, hcar⟩ : ∃ t, t = hi + c2 := ⟨_, rfl⟩
          obtain ⟨cas, hcas⟩ : ∃ t, t = hi + c2 + c3 := ⟨_, rfl⟩
          have hcw : IntKind.u64.wrap ((hi : Int) + c2) = (car : Int) := by rw [IntKind.wrap_u64]; omega
          have hcw2 : IntKind.u64.wrap ((car : Int) + c3) = (cas : Int) := by rw [IntKind.wrap_u64]; omega
          have hst := prod_step (r := r) (c' := cas) hkl HE.out (by rw [← hyd, ← hzd, hpw.2.2, hcas]; rfl)
          have HST := Lib.hid hst
          have HR := Lib.hid hr64
          have HCAS := Lib.hid (show cas < 18446744073709551616 by rw [hcas]; exact hpw.2.1)
          have hij : i + j < n := by have := HN.out; omega
          clear hst hyd hzd hhi hlo hl2 hc2 hr hc3 hpw hcar hcas hr64 hy64 hz64
          go_wp2_with (go_at_call 116; refine (CM.out _).mono ?_; rintro e w' ⟨rfl, rfl⟩)
          go_roundw
          case rel =>
            exact ⟨j + 1, cas, cs.set (i + j) r, by omega, by go_num, rfl, HCAS, Lib.hid (by have := HL.out; simpa using this), hcs.set _ _ HR.out, hcg.set _ _, Lib.hid (fun k hk => by rw [getD_set_other _ (by omega)]; exact HZ.out k hk), HST, hbel.setCell (Nat.le_refl _) _⟩
          case measure => simp [intOf]; omega
        · have hje : j = b := by omega
          subst hje
          have hkl : i + j < cs.length := by have := HL.out; have := HN.out; omega
          have hz0 := HZ.out (i + j) (Nat.le_refl _)
          have hcz := hcg.cell (i + j) hkl
          rw [hz0] at hcz
          have hfr := hcg.frozen (i + j)
          have hst : dv B64 (cs.set (i + j) c) = dv B64 (X.take (i + 1)) * dv B64 Y := by
            have hb := HB.out
            have h1 := HE.out
            rw [← hb] at h1 hkl hz0 ⊢
            exact prod_next HXD.out hkl hz0 h1
          have HST := Lib.hid hst
          have hij : i + j < n := by have := HN.out; omega
          clear hst
          go_wp2
          go_roundw
          case rel =>
            exact ⟨i + 1, cs.set (i + j) c, by omega, by go_num, Lib.hid (by have := HL.out; simpa using this), hcs.set _ _ HC.out, hcg.set _ _, Lib.hid (fun k hk => by rw [getD_set_other _ (by omega)]; exact HZ.out k (by omega)), HST, hbel.setCell (Nat.le_refl _) _⟩
          case measure => simp [intOf]; omega
    · have hie : i = a := by omega
      have HF := Lib.hid (show dv B64 cs = dv B64 X * dv B64 Y by rw [HE.out, hie, ← HA.out, List.take_length])
      clear hie
      go_wp2
      go_ret
      exact ⟨cs, by rw [HL.out]; rfl, HL.out, hcs, hcg, HF.out, hbel⟩

end Go.Proofs.YtmiafkbjmkaebaaGreat
