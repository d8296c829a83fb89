/-
  Contracts of natural's functions on digits: difference.
-/
import Derived.Test.YtehpdpcpdfgnlaaDigA
namespace Go.Proofs.Ytehpdpcpdfgnlaa
open Go.RowKit Num

theorem diff_lo (x b y : Nat) (hx : x < 4294967296) (hb : b ≤ 1) (hy : y < 4294967296) : IntKind.u64.wrap (IntKind.u64.wrap ((x : Int) - b) - y) % 4294967296 = (((x + 4294967296 - y - b) % 4294967296 : Nat) : Int) := by
  rw [IntKind.wrap_u64, IntKind.wrap_u64]; omega
theorem diff_hi (x b y : Nat) (hx : x < 4294967296) (hb : b ≤ 1) (hy : y < 4294967296) : IntKind.u64.wrap (IntKind.u64.wrap ((x : Int) - b) - y) / 9223372036854775808 = ((1 - (x + 4294967296 - y - b) / 4294967296 : Nat) : Int) := by
  rw [IntKind.wrap_u64, IntKind.wrap_u64]; omega
theorem diff_lo0 (x b : Nat) (hx : x < 4294967296) (hb : b ≤ 1) : IntKind.u64.wrap ((x : Int) - b) % 4294967296 = (((x + 4294967296 - b) % 4294967296 : Nat) : Int) := by
  rw [IntKind.wrap_u64]; omega
theorem diff_hi0 (x b : Nat) (hx : x < 4294967296) (hb : b ≤ 1) : IntKind.u64.wrap ((x : Int) - b) / 9223372036854775808 = ((1 - (x + 4294967296 - b) / 4294967296 : Nat) : Int) := by
  rw [IntKind.wrap_u64]; omega
theorem diff_step {X Y zs : List Nat} {k c r q : Nat} (hk : k < zs.length) (h : dv B32 (zs.take k) + dv B32 (Y.take k) = dv B32 (X.take k) + B32 ^ k * c) (hr : r + Y.getD k 0 + c = X.getD k 0 + B32 * q) :
    dv B32 ((zs.set k r).take (k + 1)) + dv B32 (Y.take (k + 1)) = dv B32 (X.take (k + 1)) + B32 ^ (k + 1) * q := by
  rw [dv_set_next _ _ _ _ hk, dv_take_next, dv_take_next]
  generalize X.getD k 0 = x at *
  generalize Y.getD k 0 = y at *
  rw [Nat.pow_succ]
  generalize B32 ^ k = p at *
  have e2 : p * r + p * y + p * c = p * x + p * B32 * q := by
    rw [Nat.mul_assoc, ← Nat.mul_add, ← Nat.mul_add, hr, Nat.mul_add]
  omega
theorem diff_last {X Y zs : List Nat} {c : Nat} (hl : Y.length ≤ X.length) (hz : zs.length = X.length) (hs : Small zs) (h : dv B32 (zs.take X.length) + dv B32 (Y.take X.length) = dv B32 (X.take X.length) + B32 ^ X.length * c) (hle : dv B32 Y ≤ dv B32 X) : dv B32 zs = dv B32 X - dv B32 Y := by
  rw [List.take_length, dv_take_all _ _ _ hl, dv_take_all _ _ _ (by omega)] at h
  have hz2 := hs.dv_lt
  rw [hz] at hz2
  rcases Nat.eq_zero_or_pos c with rfl | hc
  · omega
  · have : B32 ^ X.length * 1 ≤ B32 ^ X.length * c := Nat.mul_le_mul_left _ hc
    omega

set_option maxHeartbeats 400000 in
theorem difference_any (A B : Option Addr) (X Y : List Nat) (cx cy : Nat) (w : World) (hX : IsD w A X) (hY : IsD w B Y) (hl : Y.length ≤ X.length) (hle : dv B32 Y ≤ dv B32 X) (hm : X.length ≤ 1048576) :
    Calls Try.prog 93 #[.slice A X.length cx, .slice B Y.length cy] w (MadeD w X.length (dv B32 X - dv B32 Y)) := by
  obtain ⟨i0, hi0, hz0, hz1, hz2⟩ := info_parts info_u32
  go_enter Try.func93, Try.ntmps93
  go_wp2_with (at_make; refine wpList_make_full _ rfl _ _ 78 rfl w.heap.size 80 i0 (.int .u32 0) 1 Try.underlying78 hi0 hz0 hz1 _ _ _ _ X.length rfl rfl (by omega) (by omega) (by rw [hz2]; omega) (by unfold maxLen; omega) (Nat.le_refl _) ?_; intro w0 hown0 hgrow0)
  have hb0 : Below w.heap.size w w0 := (Below.refl _ _).grown hgrow0 (Nat.le_refl _) (fun g hg => by cases hg)
  rw [madeD] at hown0
  have hd0 := Dg.of_own hown0
  clear hown0 hgrow0
  go_loopw [6, 14] (fun c i wr => ∃ (k cn : Nat) (zs : List Nat), k ≤ X.length ∧ i = .int .i64 k ∧ c = .int .u64 cn ∧ cn ≤ 1 ∧ zs.length = X.length ∧ Small zs ∧ Dg wr w.heap.size zs ∧ Hid (dv B32 (zs.take k) + dv B32 (Y.take k) = dv B32 (X.take k) + B32 ^ k * cn) ∧ Below w.heap.size w wr) (fun _ i _ => X.length - (intOf i).toNat)
  case atStart => exact ⟨0, 0, _, Nat.zero_le _, rfl, rfl, by omega, List.length_replicate, Small.replicate _, hd0, Lib.hid (by simp [dv]), hb0⟩
  case round =>
    obtain ⟨k, cn, zs, hk, rfl, rfl, hcn, hzl, hzs, hdz, HE, hbel⟩ := hrel
    by_cases hlt : k < X.length
    · obtain ⟨gx, ox, rfl, hgx, hcx⟩ := hX.2 (by omega)
      have hcx' := (hbel.cell (p := ⟨gx, ox + k, none⟩) hgx).trans (hcx k hlt)
      obtain ⟨x, hx⟩ : ∃ x, x = X.getD k 0 := ⟨_, rfl⟩
      have hx32 : x < 4294967296 := by rw [hx]; exact hX.1.at k
      rw [← hx] at hcx'
      have hk1 : k < zs.length := by omega
      have hfr := hdz.frozen k
      have hcz := hdz.cell k hk1
      obtain ⟨z, hz⟩ : ∃ z, z = zs.getD k 0 := ⟨_, rfl⟩
      rw [← hz] at hcz
      have HY2 := Lib.hid (hY.1.at k)
      have HX := Lib.hid hx
      clear hx hz hcx
      by_cases hy : k < Y.length
      · obtain ⟨gy, oy, rfl, hgy, hcy⟩ := hY.2 (by omega)
        have hcy' := (hbel.cell (p := ⟨gy, oy + k, none⟩) hgy).trans (hcy k hy)
        obtain ⟨y, hyd⟩ : ∃ y, y = Y.getD k 0 := ⟨_, rfl⟩
        have hy32 : y < 4294967296 := by rw [hyd]; exact HY2.out
        rw [← hyd] at hcy'
        have HYD := Lib.hid hyd
        clear hyd hcy
        have hst := diff_step (r := (x + 4294967296 - y - cn) % 4294967296) (q := 1 - (x + 4294967296 - y - cn) / 4294967296) hk1 HE.out (by rw [← HX.out, ← HYD.out]; unfold B32; omega)
        have ST := Lib.hid hst
        clear hst
        go_wp2
        go_roundw
        case rel => exact ⟨k + 1, 1 - (x + 4294967296 - y - cn) / 4294967296, zs.set k ((x + 4294967296 - y - cn) % 4294967296), by omega, by go_num, val_int (diff_hi x cn y hx32 hcn hy32), by omega, by simpa using hzl, hzs.set _ _ (Nat.mod_lt _ (by decide)), by rw [diff_lo x cn y hx32 hcn hy32]; exact hdz.set _ _, ST, hbel.setCell (Nat.le_refl _) _⟩
        case measure => simp [intOf]; omega
      · have hy0 : Y.getD k 0 = 0 := by rw [List.getD_eq_getElem?_getD, List.getElem?_eq_none (by omega)]; rfl
        have HYD := Lib.hid hy0
        clear hy0
        have hst := diff_step (r := (x + 4294967296 - cn) % 4294967296) (q := 1 - (x + 4294967296 - cn) / 4294967296) hk1 HE.out (by rw [← HX.out, HYD.out]; unfold B32; omega)
        have ST := Lib.hid hst
        clear hst
        go_wp2
        go_roundw
        case rel => exact ⟨k + 1, 1 - (x + 4294967296 - cn) / 4294967296, zs.set k ((x + 4294967296 - cn) % 4294967296), by omega, by go_num, val_int (diff_hi0 x cn hx32 hcn), by omega, by simpa using hzl, hzs.set _ _ (Nat.mod_lt _ (by decide)), by rw [diff_lo0 x cn hx32 hcn]; exact hdz.set _ _, ST, hbel.setCell (Nat.le_refl _) _⟩
        case measure => simp [intOf]; omega
    · have hke : k = X.length := by omega
      have HK := Lib.hid hke
      clear hke
      go_wp2
      go_ret
      exact ⟨zs, by rw [hzl]; rfl, hzl, hzs, hdz, diff_last hl hzl hzs (by rw [← HK.out]; exact HE.out) hle, hbel⟩
end Go.Proofs.Ytehpdpcpdfgnlaa
