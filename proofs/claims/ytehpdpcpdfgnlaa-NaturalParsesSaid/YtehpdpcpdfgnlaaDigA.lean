/-
  Contracts of natural's functions on digits: sum, difference.
-/
import Derived.Test.YtehpdpcpdfgnlaaMem
namespace Go.Proofs.Ytehpdpcpdfgnlaa
open Go.RowKit Num

/-- A function on digits hands back a new slice of n digits with the value v. -/
def MadeD (w : World) (n v : Nat) (e : Ending) (w' : World) : Prop :=
  ∃ zs : List Nat, e = .returned (.slice (some ⟨w.heap.size, 0, none⟩) zs.length zs.length) ∧ zs.length = n ∧ Small zs ∧ Dg w' w.heap.size zs ∧ dv B32 zs = v ∧ Below w.heap.size w w'

theorem sum_step {X Y zs : List Nat} {k c : Nat} (hk : k < zs.length) (h : dv B32 (zs.take k) + B32 ^ k * c = dv B32 (X.take k) + dv B32 (Y.take k)) :
    dv B32 ((zs.set k ((c + X.getD k 0 + Y.getD k 0) % B32)).take (k + 1)) + B32 ^ (k + 1) * ((c + X.getD k 0 + Y.getD k 0) / B32) = dv B32 (X.take (k + 1)) + dv B32 (Y.take (k + 1)) := by
  rw [dv_set_next _ _ _ _ hk, dv_take_next, dv_take_next]
  generalize X.getD k 0 = x at *
  generalize Y.getD k 0 = y at *
  have e := Nat.div_add_mod (c + x + y) B32
  generalize (c + x + y) / B32 = q at *
  generalize (c + x + y) % B32 = r at *
  rw [Nat.pow_succ]
  generalize B32 ^ k = p at *
  have e2 : p * B32 * q + p * r = p * c + p * x + p * y := by
    rw [Nat.mul_assoc, ← Nat.mul_add, e, Nat.mul_add, Nat.mul_add]
  omega

theorem sum_last {X Y zs : List Nat} {c : Nat} (hk : zs.length = X.length + 1) (h : dv B32 (zs.take X.length) + B32 ^ X.length * c = dv B32 (X.take X.length) + dv B32 (Y.take X.length)) (hl : Y.length ≤ X.length) :
    dv B32 (zs.set X.length c) = dv B32 X + dv B32 Y := by
  have := dv_set_next B32 zs X.length c (by omega)
  rw [dv_take_all _ _ _ (by simp; omega)] at this
  rw [this, h, List.take_length, dv_take_all _ _ _ hl]

set_option maxHeartbeats 400000 in
theorem sum_core (sw : Bool) (A B : Option Addr) (X Y : List Nat) (cx cy : Nat) (w : World) (hX : IsD w A X) (hY : IsD w B Y) (hl : Y.length ≤ X.length) (hsw : sw = true → Y.length < X.length) (hm : X.length ≤ 1048576) :
    Calls Try.prog 100 (if sw then #[.slice B Y.length cy, .slice A X.length cx] else #[.slice A X.length cx, .slice B Y.length cy]) w (MadeD w (X.length + 1) (dv B32 X + dv B32 Y)) := by
  obtain ⟨i0, hi0, hz0, hz1, hz2⟩ := info_parts info_u32
  cases sw
  case' false =>
    have hd : decide (X.length < Y.length) = false := by simpa using hl
    rw [if_neg (by decide)]
    clear hsw
    go_enter Try.func100, Try.ntmps100
    go_wp2_with (at_make; refine wpList_make_full _ rfl _ _ 78 rfl w.heap.size 80 i0 (.int .u32 0) 1 Try.underlying78 hi0 hz0 hz1 _ _ _ _ (X.length + 1) rfl rfl (by omega) (by omega) (by rw [hz2]; omega) (by unfold maxLen; omega) (Nat.le_refl _) ?_; intro w0 hown0 hgrow0)
  case' true =>
    have hd : decide (Y.length < X.length) = true := by simpa using hsw rfl
    rw [if_pos rfl]
    clear hsw
    go_enter Try.func100, Try.ntmps100
    go_wp2_with (at_make; refine wpList_make_full _ rfl _ _ 78 rfl w.heap.size 80 i0 (.int .u32 0) 1 Try.underlying78 hi0 hz0 hz1 _ _ _ _ (X.length + 1) rfl rfl (by omega) (by omega) (by rw [hz2]; omega) (by unfold maxLen; omega) (Nat.le_refl _) ?_; intro w0 hown0 hgrow0)
  all_goals
    have hb0 : Below w.heap.size w w0 := (Below.refl _ _).grown hgrow0 (Nat.le_refl _) (fun g hg => by cases hg)
    rw [madeD] at hown0
    have hd0 := Dg.of_own hown0
    clear hown0 hgrow0
    go_loopw [6, 21] (fun c i wr => ∃ (k cn : Nat) (zs : List Nat), k ≤ X.length ∧ i = .int .i64 k ∧ c = .int .u64 cn ∧ cn ≤ 1 ∧ zs.length = X.length + 1 ∧ Small zs ∧ Dg wr w.heap.size zs ∧ Hid (dv B32 (zs.take k) + B32 ^ k * cn = dv B32 (X.take k) + dv B32 (Y.take k)) ∧ Below w.heap.size w wr) (fun _ i _ => X.length - (intOf i).toNat)
    case atStart => exact ⟨0, 0, _, Nat.zero_le _, rfl, rfl, by omega, List.length_replicate, Small.replicate _, hd0, Lib.hid (by simp [dv]), hb0⟩
    case round =>
      obtain ⟨k, cn, zs, hk, rfl, rfl, hcn, hzl, hzs, hdz, HE, hbel⟩ := hrel
      by_cases hlt : k < X.length
      · obtain ⟨gx, ox, rfl, hgx, hcx⟩ := hX.2 (by omega)
        have hcx' := (hbel.cell (p := ⟨gx, ox + k, none⟩) hgx).trans (hcx k hlt)
        have hx32 := hX.1.at k
        obtain ⟨x, hx⟩ : ∃ x, x = X.getD k 0 := ⟨_, rfl⟩
        rw [← hx] at hcx' hx32
        have hx32 : x < 4294967296 := hx32
        have hk1 : k < zs.length := by omega
        have hfr := hdz.frozen k
        have hcz := hdz.cell k hk1
        obtain ⟨z, hz⟩ : ∃ z, z = zs.getD k 0 := ⟨_, rfl⟩
        rw [← hz] at hcz
        have ST := Lib.hid (sum_step hk1 HE.out)
        have HY2 := Lib.hid (hY.1.at k)
        by_cases hy : k < Y.length
        · obtain ⟨gy, oy, rfl, hgy, hcy⟩ := hY.2 (by omega)
          have hcy' := (hbel.cell (p := ⟨gy, oy + k, none⟩) hgy).trans (hcy k hy)
          obtain ⟨y, hyd⟩ : ∃ y, y = Y.getD k 0 := ⟨_, rfl⟩
          have hy32 : y < 4294967296 := by rw [hyd]; exact HY2.out
          rw [← hyd] at hcy'
          have HX := Lib.hid hx
          have HYD := Lib.hid hyd
          clear hx hyd hz hcx hcy
          go_wp2
          go_roundw
          case rel => exact ⟨k + 1, (cn + x + y) / 4294967296, zs.set k ((cn + x + y) % 4294967296), by omega, by go_num, by go_num, by omega, by simpa using hzl, hzs.set _ _ (Nat.mod_lt _ (by decide)), by rw [show ((cn : Int) + x + y) % 4294967296 = (((cn + x + y) % 4294967296 : Nat) : Int) from by omega]; exact hdz.set _ _, by rw [HX.out, HYD.out]; exact ST, hbel.setCell (Nat.le_refl _) _⟩
          case measure => simp [intOf]; omega
        · have hy0 : Y.getD k 0 = 0 := by rw [List.getD_eq_getElem?_getD, List.getElem?_eq_none (by omega)]; rfl
          have HX := Lib.hid hx
          have HYD := Lib.hid hy0
          clear hx hy0 hz hcx
          go_wp2
          go_roundw
          case rel => exact ⟨k + 1, (cn + x) / 4294967296, zs.set k ((cn + x) % 4294967296), by omega, by go_num, by go_num, by omega, by simpa using hzl, hzs.set _ _ (Nat.mod_lt _ (by decide)), by rw [show ((cn : Int) + x) % 4294967296 = (((cn + x) % 4294967296 : Nat) : Int) from by omega]; exact hdz.set _ _, by have := ST.out; rw [HYD.out] at this; rw [HX.out]; exact this, hbel.setCell (Nat.le_refl _) _⟩
          case measure => simp [intOf]; omega
      · have hke : k = X.length := by omega
        have hk1 : k < zs.length := by omega
        have hfr := hdz.frozen X.length
        have hcz := hdz.cell X.length (by omega)
        obtain ⟨z, hz⟩ : ∃ z, z = zs.getD X.length 0 := ⟨_, rfl⟩
        rw [← hz] at hcz
        have HK := Lib.hid hke
        clear hz hke
        go_wp2
        go_ret
        exact ⟨zs.set X.length cn, by rw [List.length_set, hzl]; rfl, by simpa using hzl, hzs.set X.length cn (by unfold B32; omega), hdz.set _ _, sum_last hzl (by rw [← HK.out]; exact HE.out) hl, hbel.setCell (Nat.le_refl _) _⟩

theorem sum_any (A B : Option Addr) (X Y : List Nat) (cx cy : Nat) (w : World) (hX : IsD w A X) (hY : IsD w B Y) (hx : X.length ≤ 1048576) (hy : Y.length ≤ 1048576) :
    Calls Try.prog 100 #[.slice A X.length cx, .slice B Y.length cy] w (MadeD w (max X.length Y.length + 1) (dv B32 X + dv B32 Y)) := by
  rcases Nat.lt_or_ge X.length Y.length with h | h
  · have := sum_core true B A Y X cy cx w hY hX (by omega) (fun _ => h) hy
    rw [if_pos rfl] at this
    rw [Nat.max_eq_right (by omega), Nat.add_comm (dv B32 X)]
    exact this
  · have := sum_core false A B X Y cx cy w hX hY h (fun h => by cases h) hx
    rw [if_neg (by decide)] at this
    rw [Nat.max_eq_left h]
    exact this
end Go.Proofs.Ytehpdpcpdfgnlaa
