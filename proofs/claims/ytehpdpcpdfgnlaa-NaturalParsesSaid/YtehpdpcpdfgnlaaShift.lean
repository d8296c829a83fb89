/-
  The contracts of natural.shiftLeft and natural.shiftRight.
-/
import Derived.Test.YtehpdpcpdfgnlaaDigA
import Derived.RegionTactic
import Derived.BigRegion
namespace Go.Proofs.Ytehpdpcpdfgnlaa
open Go.RowKit Num

theorem shl_step {X zs : List Nat} {k s lo hi z : Nat} (hk : k + 1 < zs.length) (h : dv B32 (zs.take k) + B32 ^ k * z = dv B32 (X.take k) * s) (hx : X.getD k 0 * s = lo + B32 * hi) :
    dv B32 (((zs.set k (z + lo)).set (k + 1) hi).take (k + 1)) + B32 ^ (k + 1) * hi = dv B32 (X.take (k + 1)) * s ∧ ((zs.set k (z + lo)).set (k + 1) hi).getD (k + 1) 0 = hi := by
  constructor
  · rw [List.take_set_of_le (Nat.le_refl _), dv_set_next _ _ _ _ (by omega), dv_take_next B32 X, Nat.pow_succ, Nat.add_mul, ← h]
    have e : B32 ^ k * X.getD k 0 * s = B32 ^ k * lo + B32 ^ k * B32 * hi := by
      rw [Nat.mul_assoc, hx, Nat.mul_add, Nat.mul_assoc]
    rw [e, Nat.mul_add]
    omega
  · simp [List.getD_eq_getElem?_getD, hk]
theorem shl_last {X zs : List Nat} {n s : Nat} (hz : zs.length = n + 1) (hX : X.length = n) (h : dv B32 (zs.take n) + B32 ^ n * zs.getD n 0 = dv B32 (X.take n) * s) : dv B32 zs = dv B32 X * s := by
  rw [← dv_take_next, dv_take_all _ _ _ (by omega), dv_take_all _ _ _ (by omega)] at h
  exact h
theorem pow32 {s : Nat} (h : s < 32) : ∃ u, 4294967296 = 2 ^ s * u := ⟨2 ^ (32 - s), by rw [← Nat.pow_add, show s + (32 - s) = 32 from by omega]⟩
theorem pow_le31 {s : Nat} (h : s < 32) : 2 ^ s ≤ 2147483648 := Nat.pow_le_pow_right (n := 2) (by decide) (show s ≤ 31 by omega)

theorem shl_or {x z s wd : Nat} (hs : s < 32) (hx : x < 4294967296) (hz : z < 2 ^ s) (hwd : wd = x * 2 ^ s) : bits BinOp.or IntKind.u32 (z : Int) ((wd : Int) % 4294967296) = ((z + wd % 4294967296 : Nat) : Int) ∧ z + wd % 4294967296 < 4294967296 ∧ wd / 4294967296 < 2 ^ s := by
  obtain ⟨u, hu⟩ := pow32 hs
  have h31 := pow_le31 hs
  have h0 : wd % 4294967296 % 2 ^ s = 0 := by
    rw [hu, Nat.mod_mul_right_mod, hwd]; exact Nat.mul_mod_left _ _
  have h1 : z + wd % 4294967296 < 4294967296 := by
    have h2 : wd % 4294967296 < 4294967296 := Nat.mod_lt _ (by decide)
    have h3 := Nat.div_add_mod (wd % 4294967296) (2 ^ s)
    rw [h0, Nat.add_zero] at h3
    have h4 : 2 ^ s * (wd % 4294967296 / 2 ^ s) < 2 ^ s * u := by rw [h3, ← hu]; exact h2
    have h5 := Nat.lt_of_mul_lt_mul_left h4
    have h6 : 2 ^ s * (wd % 4294967296 / 2 ^ s + 1) ≤ 2 ^ s * u := Nat.mul_le_mul_left _ h5
    rw [Nat.mul_add, h3, ← hu] at h6
    omega
  refine ⟨?_, h1, ?_⟩
  · rw [show ((wd : Int) % 4294967296) = ((wd % 4294967296 : Nat) : Int) from by omega, u32_or_nat _ _ (by omega) (by omega), Nat.or_comm, nat_join s _ _ h0 hz, Nat.add_comm]
  · rw [Nat.div_lt_iff_lt_mul (by decide), hwd, Nat.mul_comm]
    exact Nat.mul_lt_mul_of_pos_left hx (Nat.pow_pos (by decide))

set_option maxHeartbeats 1000000 in
set_option maxRecDepth 100000 in
theorem shl_any (A : Option Addr) (X : List Nat) (cx s : Nat) (w : World) (hX : IsD w A X) (hs : s < 32) (hm : X.length ≤ 1000) :
    Calls Try.prog 104 #[.slice A X.length cx, .int .i64 s] w (MadeD w (X.length + 1) (dv B32 X * 2 ^ s)) := by
  obtain ⟨i0, hi0, hz0, hz1, hz2⟩ := info_parts info_u32
  go_enter Try.func104, Try.ntmps104
  go_wp2_with (at_make; refine wpList_make_full _ rfl _ _ 78 rfl w.heap.size 80 i0 (.int .u32 0) 1 Try.underlying78 hi0 hz0 hz1 _ _ _ _ (X.length + 1) rfl rfl (by omega) (by omega) (by rw [hz2]; omega) (by unfold maxLen; omega) (Nat.le_refl _) ?_; intro w0 hown0 hgrow0)
  have hb0 : Below w.heap.size w w0 := (Below.refl _ _).grown hgrow0 (Nat.le_refl _) (fun g hg => by cases hg)
  rw [madeD] at hown0
  have hd0 := Dg.of_own hown0
  clear hown0 hgrow0
  go_loopw [14] (fun i wr => ∃ (k : Nat) (zs : List Nat), k ≤ X.length ∧ i = .int .i64 k ∧ Hid (zs.length = X.length + 1) ∧ Small zs ∧ Dg wr w.heap.size zs ∧ Hid (zs.getD k 0 < 2 ^ s) ∧ Hid (dv B32 (zs.take k) + B32 ^ k * zs.getD k 0 = dv B32 (X.take k) * 2 ^ s) ∧ Below w.heap.size w wr) (fun i _ => X.length - (intOf i).toNat)
  case atStart => exact ⟨0, _, Nat.zero_le _, rfl, Lib.hid List.length_replicate, Small.replicate _, hd0, Lib.hid (by simp [Nat.pow_pos]), Lib.hid (by simp [dv]), hb0⟩
  case round =>
    obtain ⟨k, zs, hk, rfl, HL, hzs, hdz, HZ, HE, hbel⟩ := hrel
    by_cases hlt : k < X.length
    · obtain ⟨gx, ox, rfl, hgx, hcx⟩ := hX.2 (by omega)
      have hcx' := (hbel.cell (p := ⟨gx, ox + k, none⟩) hgx).trans (hcx k hlt)
      obtain ⟨x, hx⟩ : ∃ x, x = X.getD k 0 := ⟨_, rfl⟩
      have hx32 : x < 4294967296 := by rw [hx]; exact hX.1.at k
      rw [← hx] at hcx'
      have hfr := hdz.frozen k
      have hfr1 := hdz.frozen (k + 1)
      have hcz := hdz.cell k (by have := HL.out; omega)
      have hcz1 := hdz.cell (k + 1) (by have := HL.out; omega)
      obtain ⟨z, hz⟩ : ∃ z, z = zs.getD k 0 := ⟨_, rfl⟩
      obtain ⟨z1, hz1d⟩ : ∃ z, z = zs.getD (k + 1) 0 := ⟨_, rfl⟩
      rw [← hz] at hcz
      rw [← hz1d] at hcz1
      obtain ⟨wd, hwd⟩ : ∃ wd, wd = x * 2 ^ s := ⟨_, rfl⟩
      have hp := pow_le31 hs
      have hwd64 : wd ≤ 9223372034707292160 := by
        rw [hwd]; exact Nat.mul_le_mul (show x ≤ 4294967295 by omega) hp
      have hzs2 : z < 2 ^ s := by rw [hz]; exact HZ.out
      have hor := shl_or hs hx32 hzs2 hwd
      have hw : IntKind.u64.wrap ((x : Int) * 2 ^ s) = (wd : Int) := by
        rw [show ((x : Int) * 2 ^ s) = (wd : Int) from by rw [hwd]; simp, IntKind.wrap_u64]; omega
      have hst := shl_step (zs := zs) (X := X) (k := k) (s := 2 ^ s) (lo := wd % 4294967296) (hi := wd / 4294967296) (z := z) (by have := HL.out; omega) (by rw [hz]; exact HE.out) (by rw [← hx, ← hwd]; unfold B32; omega)
      have HST := Lib.hid hst
      have HOR := Lib.hid hor
      have HW := Lib.hid hw
      have HWD := Lib.hid hwd64
      have HP := Lib.hid hp
      clear hp hx hz hz1d hcx hwd hst hor hw hzs2
      go_wp2
      go_roundw
      case rel =>
        refine ⟨k + 1, (zs.set k (z + wd % 4294967296)).set (k + 1) (wd / 4294967296), by omega, by go_num, Lib.hid (by have := HL.out; simpa using this), (hzs.set _ _ HOR.out.2.1).set _ _ (by have := HWD.out; unfold B32; omega), ?_, Lib.hid ?_, Lib.hid ?_, (hbel.setCell (Nat.le_refl _) _).setCell (Nat.le_refl _) _⟩
        · rw [HW.out, HOR.out.1, show ((wd : Int) / 4294967296 % 4294967296) = ((wd / 4294967296 : Nat) : Int) from by have := HWD.out; omega]
          exact (hdz.set _ _).set _ _
        · rw [HST.out.2]; exact HOR.out.2.2
        · rw [HST.out.2]; exact HST.out.1
      case measure => simp [intOf]; omega
    · have hke : k = X.length := by omega
      have HLAST := Lib.hid (shl_last (n := X.length) HL.out rfl (by rw [← hke]; exact HE.out))
      clear hke
      go_wp2
      go_ret
      exact ⟨zs, by rw [HL.out]; rfl, HL.out, hzs, hdz, HLAST.out, hbel⟩

theorem dv_div_pow {X : List Nat} (hs : Small X) (k : Nat) (h : k ≤ X.length) : dv B32 X / B32 ^ k = dv B32 (X.drop k) := by
  rw [dv_split B32 X k h]
  have := (hs.take k).dv_lt
  rw [List.length_take, Nat.min_eq_left h] at this
  rw [Nat.add_mul_div_left _ _ (Nat.pow_pos (by decide)), Nat.div_eq_of_lt this, Nat.zero_add]
theorem dv_drop' (B : Nat) (xs : List Nat) (k : Nat) : dv B (xs.drop k) = xs.getD k 0 + B * dv B (xs.drop (k + 1)) := by
  rcases Nat.lt_or_ge k xs.length with h | h
  · rw [List.drop_eq_getElem_cons h, dv_cons]
    simp [List.getD_eq_getElem?_getD, List.getElem?_eq_getElem h]
  · rw [List.drop_eq_nil_of_le h, List.drop_eq_nil_of_le (by omega), List.getD_eq_getElem?_getD, List.getElem?_eq_none h]
    simp [dv]
theorem shr_digit {X : List Nat} {k s : Nat} (hs : s < 32) (hX : Small X) (hk : k ≤ X.length) : dv B32 X / 2 ^ s / B32 ^ k % B32 = (X.getD k 0 + X.getD (k + 1) 0 * B32) / 2 ^ s % B32 := by
  obtain ⟨u, hu⟩ := pow32 hs
  have hpos : 0 < 2 ^ s := Nat.pow_pos (by decide)
  rw [Nat.div_div_eq_div_mul, Nat.mul_comm (2 ^ s), ← Nat.div_div_eq_div_mul, dv_div_pow hX k hk, dv_drop', dv_drop' B32 X (k + 1)]
  generalize X.getD k 0 = x
  generalize X.getD (k + 1) 0 = y
  generalize dv B32 (X.drop (k + 1 + 1)) = r
  have e : x + B32 * (y + B32 * r) = x + y * B32 + 2 ^ s * (B32 * (u * r)) := by
    have hb : B32 = 2 ^ s * u := hu
    have h1 : B32 * (B32 * r) = 2 ^ s * (B32 * (u * r)) := by
      conv => lhs; lhs; rw [hb]
      grind
    rw [Nat.mul_add, h1, Nat.mul_comm y]; omega
  rw [e, Nat.add_mul_div_left _ _ hpos, Nat.add_mul_mod_self_left]
theorem shr_step {X zs : List Nat} {k s d : Nat} (hs : s < 32) (hX : Small X) (hk : k < X.length) (hz : k < zs.length) (h : dv B32 (zs.take k) = dv B32 X / 2 ^ s % B32 ^ k) (hd : d = (X.getD k 0 + X.getD (k + 1) 0 * B32) / 2 ^ s % B32) :
    dv B32 ((zs.set k d).take (k + 1)) = dv B32 X / 2 ^ s % B32 ^ (k + 1) := by
  rw [dv_set_next _ _ _ _ hz, h, Nat.pow_succ, Nat.mod_mul, hd, shr_digit hs hX (by omega)]
theorem shr_last {X zs : List Nat} {s : Nat} (hX : Small X) (hz : zs.length = X.length) (h : dv B32 (zs.take X.length) = dv B32 X / 2 ^ s % B32 ^ X.length) : dv B32 zs = dv B32 X / 2 ^ s := by
  rw [dv_take_all _ _ _ (by omega)] at h
  rw [h]
  exact Nat.mod_eq_of_lt (Nat.lt_of_le_of_lt (Nat.div_le_self _ _) hX.dv_lt)

set_option maxHeartbeats 1000000 in
set_option maxRecDepth 100000 in
theorem shr_any (A : Option Addr) (X : List Nat) (cx s : Nat) (w : World) (hX : IsD w A X) (hs : s < 32) (hm : X.length ≤ 1000) :
    Calls Try.prog 106 #[.slice A X.length cx, .int .i64 s] w (MadeD w X.length (dv B32 X / 2 ^ s)) := by
  obtain ⟨i0, hi0, hz0, hz1, hz2⟩ := info_parts info_u32
  go_enter Try.func106, Try.ntmps106
  go_wp2_with (at_make; refine wpList_make_full _ rfl _ _ 78 rfl w.heap.size 80 i0 (.int .u32 0) 1 Try.underlying78 hi0 hz0 hz1 _ _ _ _ X.length rfl rfl (by omega) (by omega) (by rw [hz2]; omega) (by unfold maxLen; omega) (Nat.le_refl _) ?_; intro w0 hown0 hgrow0)
  have hb0 : Below w.heap.size w w0 := (Below.refl _ _).grown hgrow0 (Nat.le_refl _) (fun g hg => by cases hg)
  rw [madeD] at hown0
  have hd0 := Dg.of_own hown0
  clear hown0 hgrow0
  go_loopw [13] (fun i wr => ∃ (k : Nat) (zs : List Nat), k ≤ X.length ∧ i = .int .i64 k ∧ Hid (zs.length = X.length) ∧ Small zs ∧ Dg wr w.heap.size zs ∧ Hid (dv B32 (zs.take k) = dv B32 X / 2 ^ s % B32 ^ k) ∧ Below w.heap.size w wr) (fun i _ => X.length - (intOf i).toNat)
  case atStart => exact ⟨0, _, Nat.zero_le _, rfl, Lib.hid List.length_replicate, Small.replicate _, hd0, Lib.hid (by simp [dv, Nat.mod_one]), hb0⟩
  case round =>
    obtain ⟨k, zs, hk, rfl, HL, hzs, hdz, HE, hbel⟩ := hrel
    by_cases hlt : k < X.length
    · obtain ⟨gx, ox, rfl, hgx, hcx⟩ := hX.2 (by omega)
      have hcx' := (hbel.cell (p := ⟨gx, ox + k, none⟩) hgx).trans (hcx k hlt)
      obtain ⟨x, hx⟩ : ∃ x, x = X.getD k 0 := ⟨_, rfl⟩
      have hx32 : x < 4294967296 := by rw [hx]; exact hX.1.at k
      rw [← hx] at hcx'
      have hfr := hdz.frozen k
      have hcz := hdz.cell k (by have := HL.out; omega)
      obtain ⟨z, hz⟩ : ∃ z, z = zs.getD k 0 := ⟨_, rfl⟩
      rw [← hz] at hcz
      by_cases hk1 : k + 1 < X.length
      · have hcy' := (hbel.cell (p := ⟨gx, ox + (k + 1), none⟩) hgx).trans (hcx (k + 1) hk1)
        obtain ⟨y, hy⟩ : ∃ y, y = X.getD (k + 1) 0 := ⟨_, rfl⟩
        have hy32 : y < 4294967296 := by rw [hy]; exact hX.1.at (k + 1)
        rw [← hy] at hcy'
        obtain ⟨t, ht⟩ : ∃ t, t = x + y * 4294967296 := ⟨_, rfl⟩
        have hor : bits BinOp.or IntKind.u64 (x : Int) ((y : Int) * 4294967296) = (t : Int) := by
          rw [show ((y : Int) * 4294967296) = ((y * 4294967296 : Nat) : Int) from by omega, u64_or_nat _ _ (by omega) (by omega), Nat.or_comm, nat_join 32 _ _ (by omega) hx32, Nat.add_comm, ht]
        have hst := shr_step (d := t / 2 ^ s % 4294967296) hs hX.1 hlt (by have := HL.out; omega) HE.out (by rw [ht, hx, hy]; rfl)
        have HST := Lib.hid hst
        clear hst hx hz hcx hy ht
        go_wp2
        go_roundw
        case rel => exact ⟨k + 1, zs.set k (t / 2 ^ s % 4294967296), by omega, by go_num, Lib.hid (by have := HL.out; simpa using this), hzs.set _ _ (Nat.mod_lt _ (by decide)), by rw [show ((t : Int) / 2 ^ s % 4294967296) = ((t / 2 ^ s % 4294967296 : Nat) : Int) from by simp]; exact hdz.set _ _, HST, hbel.setCell (Nat.le_refl _) _⟩
        case measure => simp [intOf]; omega
      · have hy0 : X.getD (k + 1) 0 = 0 := by rw [List.getD_eq_getElem?_getD, List.getElem?_eq_none (by omega)]; rfl
        have hst := shr_step (d := x / 2 ^ s % 4294967296) hs hX.1 hlt (by have := HL.out; omega) HE.out (by rw [hy0, ← hx]; simp [B32])
        have HST := Lib.hid hst
        clear hst hx hz hcx hy0
        go_wp2
        go_roundw
        case rel => exact ⟨k + 1, zs.set k (x / 2 ^ s % 4294967296), by omega, by go_num, Lib.hid (by have := HL.out; simpa using this), hzs.set _ _ (Nat.mod_lt _ (by decide)), by rw [show ((x : Int) / 2 ^ s % 4294967296) = ((x / 2 ^ s % 4294967296 : Nat) : Int) from by simp]; exact hdz.set _ _, HST, hbel.setCell (Nat.le_refl _) _⟩
        case measure => simp [intOf]; omega
    · have hke : k = X.length := by omega
      have HLAST := Lib.hid (shr_last hX.1 HL.out (by rw [← hke]; exact HE.out))
      clear hke
      go_wp2
      go_ret
      exact ⟨zs, by rw [HL.out]; rfl, HL.out, hzs, hdz, HLAST.out, hbel⟩

theorem shl_at (A : Option Addr) (X : List Nat) (n cx s : Nat) (w : World) (hX : IsD w A X) (hs : s < 32) (hn : X.length = n) (hm : n ≤ 1000) :
    Calls Try.prog 104 #[.slice A n cx, .int .i64 s] w (MadeD w (n + 1) (dv B32 X * 2 ^ s)) := by
  subst hn; exact shl_any A X cx s w hX hs hm
theorem shr_at (A : Option Addr) (X : List Nat) (n cx s : Nat) (w : World) (hX : IsD w A X) (hs : s < 32) (hn : X.length = n) (hm : n ≤ 1000) :
    Calls Try.prog 106 #[.slice A n cx, .int .i64 s] w (MadeD w n (dv B32 X / 2 ^ s)) := by
  subst hn; exact shr_any A X cx s w hX hs hm
end Go.Proofs.Ytehpdpcpdfgnlaa
