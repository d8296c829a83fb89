/-
  The contract of natural.columns.digits: the digits of a number that is given by columns.
-/
import Derived.Test.YtehpdpcpdfgnlaaMulA
namespace Go.Proofs.Ytehpdpcpdfgnlaa
open Go.RowKit Num

theorem cols_last {cs zs : List Nat} {c : Nat} (hz : zs.length = 64) (h : dv B32 (zs.take 64) + B32 ^ 64 * c = dv B32 (cs.take 64) + dv B32 (([] : List Nat).take 64)) (hl : cs.length = 64) (hv : dv B32 cs < B32 ^ 64) : dv B32 zs = dv B32 cs := by
  rw [dv_take_all _ _ _ (by omega), dv_take_all _ _ _ (by omega), List.take_nil, dv_nil] at h
  rcases Nat.eq_zero_or_pos c with rfl | hc
  · omega
  · have : B32 ^ 64 * 1 ≤ B32 ^ 64 * c := Nat.mul_le_mul_left _ hc
    omega

set_option maxHeartbeats 1000000 in
set_option maxRecDepth 100000 in
theorem columns_any (g : Nat) (t : TypeId) (cs : List Nat) (w : World) (hg : Cg w g t cs) (hc : cs.length = 64) (ha : AllLe cs 4398046511104) (hv : dv B32 cs < B32 ^ 64) :
    Calls Try.prog 90 #[.pointer (some ⟨g, 0, none⟩)] w (MadeD w 64 (dv B32 cs)) := by
  obtain ⟨i0, hi0, hz0, hz1, hz2⟩ := info_parts info_u32
  have HV := Lib.hid hv
  clear hv
  go_enter Try.func90, Try.ntmps90
  go_wp2_with (at_make; refine wpList_make_full _ rfl _ _ 78 rfl w.heap.size 80 i0 (.int .u32 0) 1 Try.underlying78 hi0 hz0 hz1 _ _ _ _ 64 rfl rfl (by omega) (by omega) (by rw [hz2]; omega) (by unfold maxLen; omega) (Nat.le_refl _) ?_; intro w0 hown0 hgrow0)
  have hb0 : Below w.heap.size w w0 := (Below.refl _ _).grown hgrow0 (Nat.le_refl _) (fun g hg => by cases hg)
  rw [madeD] at hown0
  have hd0 := Dg.of_own hown0
  clear hown0 hgrow0
  go_loopw [4, 7] (fun c i wr => ∃ (k cn : Nat) (zs : List Nat), k ≤ 64 ∧ i = .int .i64 k ∧ c = .int .u64 cn ∧ cn ≤ 2048 ∧ zs.length = 64 ∧ Small zs ∧ Dg wr w.heap.size zs ∧ Hid (dv B32 (zs.take k) + B32 ^ k * cn = dv B32 (cs.take k) + dv B32 (([] : List Nat).take k)) ∧ Below w.heap.size w wr) (fun _ i _ => 64 - (intOf i).toNat)
  case atStart => exact ⟨0, 0, _, Nat.zero_le _, rfl, rfl, by omega, List.length_replicate, Small.replicate _, hd0, Lib.hid (by simp [dv]), hb0⟩
  case round =>
    obtain ⟨k, cn, zs, hk, rfl, rfl, hcn, hzl, hzs, hdz, HE, hbel⟩ := hrel
    by_cases hlt : k < 64
    · obtain ⟨x, hxd⟩ : ∃ x, x = cs.getD k 0 := ⟨_, rfl⟩
      have hcx := (hg.below hbel hg.lt).cell k (by omega)
      have hxl : x ≤ 4398046511104 := by rw [hxd]; exact ha.at k
      rw [← hxd] at hcx
      have hfr := hdz.frozen k
      have hcz := hdz.cell k (by omega)
      obtain ⟨z, hz⟩ : ∃ z, z = zs.getD k 0 := ⟨_, rfl⟩
      rw [← hz] at hcz
      have hst := sum_step (by omega) HE.out
      have HY : ([] : List Nat).getD k 0 = 0 := rfl
      rw [HY, ← hxd] at hst
      have HST := Lib.hid hst
      clear hst HY hxd hz
      go_wp2
      go_roundw
      case rel => exact ⟨k + 1, (cn + x) / 4294967296, zs.set k ((cn + x) % 4294967296), by omega, by go_num, by go_num, by omega, by simpa using hzl, hzs.set _ _ (Nat.mod_lt _ (by decide)), by rw [show ((cn : Int) + x) % 4294967296 = (((cn + x) % 4294967296 : Nat) : Int) from by omega]; exact hdz.set _ _, HST, hbel.setCell (Nat.le_refl _) _⟩
      case measure => simp [intOf]; omega
    · obtain rfl : k = 64 := by omega
      have HL := Lib.hid (cols_last hzl HE.out hc HV.out)
      go_wp2
      go_ret
      exact ⟨zs, by rw [hzl]; rfl, hzl, hzs, hdz, HL.out, hbel⟩
end Go.Proofs.Ytehpdpcpdfgnlaa
