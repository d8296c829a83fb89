/-
  Contracts of natural.Mul for canonical arguments.
-/
import Derived.Test.YtehpdpcpdfgnlaaMulB
namespace Go.Proofs.Ytehpdpcpdfgnlaa
open Go.RowKit Num

set_option maxHeartbeats 400000 in
set_option maxRecDepth 100000 in
theorem mul_ok {a b : Nat} (ha : a < Top) (hb : b < Top) (hv : a * b < Top) (w : World) :
    Calls Try.prog 55 #[.string (bs a), .string (bs b)] w (Made w (.tuple #[.string (bs (a * b)), .int .i64 0])) := by
  have h1 := dlen_le ha
  have h2 := dlen_le hb
  have HA := Lib.hid ha
  have HB := Lib.hid hb
  have HV := Lib.hid hv
  clear ha hb hv
  go_enter Try.func55, Try.ntmps55
  go_wp2_with fail
  refine (valid_yes HA.out _).mono ?_
  rintro e w' ⟨rfl, rfl⟩
  go_wp2_with fail
  refine (valid_yes HB.out _).mono ?_
  rintro e w' ⟨rfl, rfl⟩
  go_wp2_with fail
  generalize hwa : w.alloc _ = wa
  have hcg : Cg wa w.heap.size 112 zeros64 := by rw [← hwa]; exact heap_alloc_new w _
  have hb0 : Below w.heap.size w wa := by rw [← hwa]; exact (Below.refl _ _).alloc (Nat.le_refl _) _
  have hzl : zeros64.length = 64 := List.length_replicate
  have HZL := Lib.hid hzl
  clear hwa hzl
  refine (digitsof_any a _ HA.out).mono ?_
  rintro e w1 ⟨xs, rfl, hxl, hxs, hxd, hxv, hbx⟩
  have hx32 : xs.length ≤ 32 := by omega
  have HXV := Lib.hid hxv
  clear hxl hxv
  go_wp2_with fail
  refine (digitsof_any b _ HB.out).mono ?_
  rintro e w2 ⟨ys, rfl, hyl, hys, hyd, hyv, hby⟩
  have hy32 : ys.length ≤ 32 := by omega
  have HYV := Lib.hid hyv
  clear hyl hyv
  have hg0 := hcg.lt
  have hcg2 : Cg w2 w.heap.size 112 zeros64 := (hcg.below hbx hg0).below hby (Nat.lt_of_lt_of_le hg0 hbx.size)
  go_wp2_with fail
  refine (fill_any w.heap.size 112 _ _ xs ys zeros64 _ _ _ hcg2 HZL.out ((IsD.of_dg hxd hxs).below hby) (IsD.of_dg hyd hys) (by intro p hp; cases hp; exact (Nat.ne_of_gt hg0)) (by intro p hp; cases hp; exact (Nat.ne_of_gt (Nat.lt_of_lt_of_le hg0 hbx.size))) hx32 hy32).mono ?_
  rintro e w3 ⟨rfl, cs, hcl, hca, hcg3, hcv, hgr⟩
  have hlt : dv B32 cs < B32 ^ 64 := by
    rw [hcv, show B32 ^ 64 = B32 ^ 32 * B32 ^ 32 from by rw [← Nat.pow_add], ← top_eq, HXV.out, HYV.out]
    exact Nat.mul_lt_mul'' HA.out HB.out
  rw [HXV.out, HYV.out] at hcv
  have HCV := Lib.hid hcv
  have HCL := Lib.hid hcl
  clear hcv hcl
  have HLT := Lib.hid hlt
  clear hlt
  go_wp2_with fail
  refine (columns_any w.heap.size 112 cs _ hcg3 HCL.out hca HLT.out).mono ?_
  rintro e w4 ⟨zs, rfl, hzl, hzs, hzd, hzv, hbz⟩
  rw [HCV.out] at hzv
  have HZV := Lib.hid hzv
  have hzl2 : zs.length ≤ 64 := by omega
  clear hzv hzl
  go_wp2_with fail
  refine (natof_ok _ zs _ _ (IsD.of_dg hzd hzs) (Nat.le_refl _) (by omega) (by rw [HZV.out]; exact HV.out)).mono ?_
  rintro e w5 ⟨rfl, hb5⟩
  go_wp2
  go_ret2
  have b2 : Below w.heap.size w w2 := (hb0.trans (hbx.mono hb0.size)).trans (hby.mono (Nat.le_trans hb0.size hbx.size))
  have b3 : Below w.heap.size w w3 := b2.grown hgr b2.size (fun k hk => by cases hk; exact Nat.le_refl _)
  exact ⟨by rw [HZV.out]; rfl, (b3.trans (hbz.mono b3.size)).trans (hb5.mono (Nat.le_trans b3.size hbz.size))⟩

set_option maxHeartbeats 400000 in
set_option maxRecDepth 100000 in
theorem mul_long {a b : Nat} (ha : a < Top) (hb : b < Top) (hv : Top ≤ a * b) (w : World) :
    Calls Try.prog 55 #[.string (bs a), .string (bs b)] w (Made w (.tuple #[.string (bs 0), .int .i64 5])) := by
  have h1 := dlen_le ha
  have h2 := dlen_le hb
  have HA := Lib.hid ha
  have HB := Lib.hid hb
  have HV := Lib.hid hv
  clear ha hb hv
  go_enter Try.func55, Try.ntmps55
  go_wp2_with fail
  refine (valid_yes HA.out _).mono ?_
  rintro e w' ⟨rfl, rfl⟩
  go_wp2_with fail
  refine (valid_yes HB.out _).mono ?_
  rintro e w' ⟨rfl, rfl⟩
  go_wp2_with fail
  generalize hwa : w.alloc _ = wa
  have hcg : Cg wa w.heap.size 112 zeros64 := by rw [← hwa]; exact heap_alloc_new w _
  have hb0 : Below w.heap.size w wa := by rw [← hwa]; exact (Below.refl _ _).alloc (Nat.le_refl _) _
  have hzl : zeros64.length = 64 := List.length_replicate
  have HZL := Lib.hid hzl
  clear hwa hzl
  refine (digitsof_any a _ HA.out).mono ?_
  rintro e w1 ⟨xs, rfl, hxl, hxs, hxd, hxv, hbx⟩
  have hx32 : xs.length ≤ 32 := by omega
  have HXV := Lib.hid hxv
  clear hxl hxv
  go_wp2_with fail
  refine (digitsof_any b _ HB.out).mono ?_
  rintro e w2 ⟨ys, rfl, hyl, hys, hyd, hyv, hby⟩
  have hy32 : ys.length ≤ 32 := by omega
  have HYV := Lib.hid hyv
  clear hyl hyv
  have hg0 := hcg.lt
  have hcg2 : Cg w2 w.heap.size 112 zeros64 := (hcg.below hbx hg0).below hby (Nat.lt_of_lt_of_le hg0 hbx.size)
  go_wp2_with fail
  refine (fill_any w.heap.size 112 _ _ xs ys zeros64 _ _ _ hcg2 HZL.out ((IsD.of_dg hxd hxs).below hby) (IsD.of_dg hyd hys) (by intro p hp; cases hp; exact (Nat.ne_of_gt hg0)) (by intro p hp; cases hp; exact (Nat.ne_of_gt (Nat.lt_of_lt_of_le hg0 hbx.size))) hx32 hy32).mono ?_
  rintro e w3 ⟨rfl, cs, hcl, hca, hcg3, hcv, hgr⟩
  have hlt : dv B32 cs < B32 ^ 64 := by
    rw [hcv, show B32 ^ 64 = B32 ^ 32 * B32 ^ 32 from by rw [← Nat.pow_add], ← top_eq, HXV.out, HYV.out]
    exact Nat.mul_lt_mul'' HA.out HB.out
  rw [HXV.out, HYV.out] at hcv
  have HCV := Lib.hid hcv
  have HCL := Lib.hid hcl
  clear hcv hcl
  have HLT := Lib.hid hlt
  clear hlt
  go_wp2_with fail
  refine (columns_any w.heap.size 112 cs _ hcg3 HCL.out hca HLT.out).mono ?_
  rintro e w4 ⟨zs, rfl, hzl, hzs, hzd, hzv, hbz⟩
  rw [HCV.out] at hzv
  have HZV := Lib.hid hzv
  have hzl2 : zs.length ≤ 64 := by omega
  clear hzv hzl
  go_wp2_with fail
  refine (natof_long _ zs _ _ (IsD.of_dg hzd hzs) (Nat.le_refl _) (by omega) (by rw [HZV.out]; exact HV.out)).mono ?_
  rintro e w5 ⟨rfl, hb5⟩
  go_wp2
  go_ret2
  have b2 : Below w.heap.size w w2 := (hb0.trans (hbx.mono hb0.size)).trans (hby.mono (Nat.le_trans hb0.size hbx.size))
  have b3 : Below w.heap.size w w3 := b2.grown hgr b2.size (fun k hk => by cases hk; exact Nat.le_refl _)
  exact ⟨rfl, (b3.trans (hbz.mono b3.size)).trans (hb5.mono (Nat.le_trans b3.size hbz.size))⟩
end Go.Proofs.Ytehpdpcpdfgnlaa
