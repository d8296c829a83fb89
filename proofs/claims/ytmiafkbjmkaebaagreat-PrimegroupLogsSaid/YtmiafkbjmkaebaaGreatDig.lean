/-
  Contracts of natural's functions on digits: sum, difference. Contracts of natural's functions on digits: difference. Contract of natural.divideShort: the quotient and the remainder of digits and one digit. Contract of natural.trim. Contract of natural.natOf: the canonical string of the number of some digits, or ErrLong. Contract of natural.digitsOf: the digits of a canonical string.
-/
import Derived.Test.YtmiafkbjmkaebaaGreatBase
import Derived.RegionTactic
import Derived.BigRegion
namespace Go.Proofs.YtmiafkbjmkaebaaGreat
open Go.RowKit Num

/-- A function on digits hands back a new slice of n digits with the value v. -/
def MadeD (w : World) (n v : Nat) (e : Ending) (w' : World) : Prop :=
  ∃ zs : List Nat, e = .returned (.slice (some ⟨w.heap.size, 0, none⟩) zs.length zs.length) ∧ zs.length = n ∧ Small zs ∧ Dg w' w.heap.size zs ∧ dv B32 zs = v ∧ Below w.heap.size w w'

theorem sum_step {X Y zs : List Nat} {k c : Nat} (hk : k < zs.length) (h : dv B32 (zs.take k) + B32 ^ k * c = dv B32 (X.take k) + dv B32 (Y.take k)) :
    dv B32 ((zs.set k ((c + X.getD k 0 + Y.getD k 0) % B32)).take (k + 1)) + B32 ^ (k + 1) * ((c + X.getD k 0 + Y.getD k 0) / B32) = dv B32 (X.take (k + 1)) + dv B32 (Y.take (k + 1)) := by
  rw [dv_set_next _ _ _ _ hk, dv_take_next, dv_take_next]
  generalize X.getD k 0 = x at *
  generalize Y.getD k 0 = y at *
  have e := Nat.div_add_mod (c + x + y) B32
  generalize (c + x + y) / B32 = q at *
  generalize (c + x + y) % B32 = r at *
  rw [Nat.pow_succ]
  generalize B32 ^ k = p at *
  have e2 : p * B32 * q + p * r = p * c + p * x + p * y := by
    rw [Nat.mul_assoc, ← Nat.mul_add, e, Nat.mul_add, Nat.mul_add]
  omega

theorem sum_last {X Y zs : List Nat} {c : Nat} (hk : zs.length = X.length + 1) (h : dv B32 (zs.take X.length) + B32 ^ X.length * c = dv B32 (X.take X.length) + dv B32 (Y.take X.length)) (hl : Y.length ≤ X.length) :
    dv B32 (zs.set X.length c) = dv B32 X + dv B32 Y := by
  have := dv_set_next B32 zs X.length c (by omega)
  rw [dv_take_all _ _ _ (by simp; omega)] at this
  rw [this, h, List.take_length, dv_take_all _ _ _ hl]

set_option maxHeartbeats 400000 in
theorem sum_core (sw : Bool) (A B : Option Addr) (X Y : List Nat) (cx cy : Nat) (w : World) (hX : IsD w A X) (hY : IsD w B Y) (hl : Y.length ≤ X.length) (hsw : sw = true → Y.length < X.length) (hm : X.length ≤ 1048576) :
    Calls Tryz.prog 147 (if sw then #[.slice B Y.length cy, .slice A X.length cx] else #[.slice A X.length cx, .slice B Y.length cy]) w (MadeD w (X.length + 1) (dv B32 X + dv B32 Y)) := by
  obtain ⟨i0, hi0, hz0, hz1, hz2⟩ := info_parts info_u32
  cases sw
  case' false =>
    have hd : decide (X.length < Y.length) = false := by simpa using hl
    rw [if_neg (by decide)]
    clear hsw
    go_enter Tryz.func147, Tryz.ntmps147
    go_wp2_with (at_make; refine wpList_make_full _ rfl _ _ 98 rfl w.heap.size 124 i0 (.int .u32 0) 1 Tryz.underlying98 hi0 hz0 hz1 _ _ _ _ (X.length + 1) rfl rfl (by omega) (by omega) (by rw [hz2]; omega) (by unfold maxLen; omega) (Nat.le_refl _) ?_; intro w0 hown0 hgrow0)
  case' true =>
    have hd : decide (Y.length < X.length) = true := by simpa using hsw rfl
    rw [if_pos rfl]
    clear hsw
    go_enter Tryz.func147, Tryz.ntmps147
    go_wp2_with (at_make; refine wpList_make_full _ rfl _ _ 98 rfl w.heap.size 124 i0 (.int .u32 0) 1 Tryz.underlying98 hi0 hz0 hz1 _ _ _ _ (X.length + 1) rfl rfl (by omega) (by omega) (by rw [hz2]; omega) (by unfold maxLen; omega) (Nat.le_refl _) ?_; intro w0 hown0 hgrow0)
  all_goals
    have hb0 : Below w.heap.size w w0 := (Below.refl _ _).grown hgrow0 (Nat.le_refl _) (fun g hg => by cases hg)
    rw [madeD] at hown0
    have hd0 := Dg.of_own hown0
    clear hown0 hgrow0
    go_loopw [6, 21] (fun c i wr => ∃ (k cn : Nat) (zs : List Nat), k ≤ X.length ∧ i = .int .i64 k ∧ c = .int .u64 cn ∧ cn ≤ 1 ∧ zs.length = X.length + 1 ∧ Small zs ∧ Dg wr w.heap.size zs ∧ Hid (dv B32 (zs.take k) + B32 ^ k * cn = dv B32 (X.take k) + dv B32 (Y.take k)) ∧ Below w.heap.size w wr) (fun _ i _ => X.length - (intOf i).toNat)
    case atStart => exact ⟨0, 0, _, Nat.zero_le _, rfl, rfl, by omega, List.length_replicate, Small.replicate _, hd0, Lib.hid (by simp [dv]), hb0⟩
    case round =>
      obtain ⟨k, cn, zs, hk, rfl, rfl, hcn, hzl, hzs, hdz, HE, hbel⟩ := hrel
      by_cases hlt : k < X.length
      · obtain ⟨gx, ox, rfl, hgx, hcx⟩ := hX.2 (by omega)
        have hcx' := (hbel.cell (p := ⟨gx, ox + k, none⟩) hgx).trans (hcx k hlt)
        have hx32 := hX.1.at k
        obtain ⟨x, hx⟩ : ∃ x, x = X.getD k 0 := ⟨_, rfl⟩
        rw [← hx] at hcx' hx32
        have hx32 : x < 4294967296 := hx32
        have hk1 : k < zs.length := by omega
        have hfr := hdz.frozen k
        have hcz := hdz.cell k hk1
        obtain ⟨z, hz⟩ : ∃ z, z = zs.getD k 0 := ⟨_, rfl⟩
        rw [← hz] at hcz
        have ST := Lib.hid (sum_step hk1 HE.out)
        have HY2 := Lib.hid (hY.1.at k)
        by_cases hy : k < Y.length
        · obtain ⟨gy, oy, rfl, hgy, hcy⟩ := hY.2 (by omega)
          have hcy' := (hbel.cell (p := ⟨gy, oy + k, none⟩) hgy).trans (hcy k hy)
          obtain ⟨y, hyd⟩ : ∃ y, y = Y.getD k 0 := ⟨_, rfl⟩
          have hy32 : y < 4294967296 := by rw [hyd]; exact HY2.out
          rw [← hyd] at hcy'
          have HX := Lib.hid hx
          have HYD := Lib.hid hyd
          clear hx hyd hz hcx hcy
          go_wp2
          go_roundw
          case rel => exact ⟨k + 1, (cn + x + y) / 4294967296, zs.set k ((cn + x + y) % 4294967296), by omega, by go_num, by go_num, by omega, by simpa using hzl, hzs.set _ _ (Nat.mod_lt _ (by decide)), by rw [show ((cn : Int) + x + y) % 4294967296 = (((cn + x + y) % 4294967296 : Nat) : Int) from by omega]; exact hdz.set _ _, by rw [HX.out, HYD.out]; exact ST, hbel.setCell (Nat.le_refl _) _⟩
          case measure => simp [intOf]; omega
        · have hy0 : Y.getD k 0 = 0 := by rw [List.getD_eq_getElem?_getD, List.getElem?_eq_none (by omega)]; rfl
          have HX := Lib.hid hx
          have HYD := Lib.hid hy0
          clear hx hy0 hz hcx
          go_wp2
          go_roundw
          case rel => exact ⟨k + 1, (cn + x) / 4294967296, zs.set k ((cn + x) % 4294967296), by omega, by go_num, by go_num, by omega, by simpa using hzl, hzs.set _ _ (Nat.mod_lt _ (by decide)), by rw [show ((cn : Int) + x) % 4294967296 = (((cn + x) % 4294967296 : Nat) : Int) from by omega]; exact hdz.set _ _, by have := ST.out; rw [HYD.out] at this; rw [HX.out]; exact this, hbel.setCell (Nat.le_refl _) _⟩
          case measure => simp [intOf]; omega
      · have hke : k = X.length := by omega
        have hk1 : k < zs.length := by omega
        have hfr := hdz.frozen X.length
        have hcz := hdz.cell X.length (by omega)
        obtain ⟨z, hz⟩ : ∃ z, z = zs.getD X.length 0 := ⟨_, rfl⟩
        rw [← hz] at hcz
        have HK := Lib.hid hke
        clear hz hke
        go_wp2
        go_ret
        exact ⟨zs.set X.length cn, by rw [List.length_set, hzl]; rfl, by simpa using hzl, hzs.set X.length cn (by unfold B32; omega), hdz.set _ _, sum_last hzl (by rw [← HK.out]; exact HE.out) hl, hbel.setCell (Nat.le_refl _) _⟩

theorem sum_any (A B : Option Addr) (X Y : List Nat) (cx cy : Nat) (w : World) (hX : IsD w A X) (hY : IsD w B Y) (hx : X.length ≤ 1048576) (hy : Y.length ≤ 1048576) :
    Calls Tryz.prog 147 #[.slice A X.length cx, .slice B Y.length cy] w (MadeD w (max X.length Y.length + 1) (dv B32 X + dv B32 Y)) := by
  rcases Nat.lt_or_ge X.length Y.length with h | h
  · have := sum_core true B A Y X cy cx w hY hX (by omega) (fun _ => h) hy
    rw [if_pos rfl] at this
    rw [Nat.max_eq_right (by omega), Nat.add_comm (dv B32 X)]
    exact this
  · have := sum_core false A B X Y cx cy w hX hY h (fun h => by cases h) hx
    rw [if_neg (by decide)] at this
    rw [Nat.max_eq_left h]
    exact this
end Go.Proofs.YtmiafkbjmkaebaaGreat

namespace Go.Proofs.YtmiafkbjmkaebaaGreat
open Go.RowKit Num

theorem diff_lo (x b y : Nat) (hx : x < 4294967296) (hb : b ≤ 1) (hy : y < 4294967296) : IntKind.u64.wrap (IntKind.u64.wrap ((x : Int) - b) - y) % 4294967296 = (((x + 4294967296 - y - b) % 4294967296 : Nat) : Int) := by
  rw [IntKind.wrap_u64, IntKind.wrap_u64]; omega
theorem diff_hi (x b y : Nat) (hx : x < 4294967296) (hb : b ≤ 1) (hy : y < 4294967296) : IntKind.u64.wrap (IntKind.u64.wrap ((x : Int) - b) - y) / 9223372036854775808 = ((1 - (x + 4294967296 - y - b) / 4294967296 : Nat) : Int) := by
  rw [IntKind.wrap_u64, IntKind.wrap_u64]; omega
theorem diff_lo0 (x b : Nat) (hx : x < 4294967296) (hb : b ≤ 1) : IntKind.u64.wrap ((x : Int) - b) % 4294967296 = (((x + 4294967296 - b) % 4294967296 : Nat) : Int) := by
  rw [IntKind.wrap_u64]; omega
theorem diff_hi0 (x b : Nat) (hx : x < 4294967296) (hb : b ≤ 1) : IntKind.u64.wrap ((x : Int) - b) / 9223372036854775808 = ((1 - (x + 4294967296 - b) / 4294967296 : Nat) : Int) := by
  rw [IntKind.wrap_u64]; omega
theorem diff_step {X Y zs : List Nat} {k c r q : Nat} (hk : k < zs.length) (h : dv B32 (zs.take k) + dv B32 (Y.take k) = dv B32 (X.take k) + B32 ^ k * c) (hr : r + Y.getD k 0 + c = X.getD k 0 + B32 * q) :
    dv B32 ((zs.set k r).take (k + 1)) + dv B32 (Y.take (k + 1)) = dv B32 (X.take (k + 1)) + B32 ^ (k + 1) * q := by
  rw [dv_set_next _ _ _ _ hk, dv_take_next, dv_take_next]
  generalize X.getD k 0 = x at *
  generalize Y.getD k 0 = y at *
  rw [Nat.pow_succ]
  generalize B32 ^ k = p at *
  have e2 : p * r + p * y + p * c = p * x + p * B32 * q := by
    rw [Nat.mul_assoc, ← Nat.mul_add, ← Nat.mul_add, hr, Nat.mul_add]
  omega
theorem diff_last {X Y zs : List Nat} {c : Nat} (hl : Y.length ≤ X.length) (hz : zs.length = X.length) (hs : Small zs) (h : dv B32 (zs.take X.length) + dv B32 (Y.take X.length) = dv B32 (X.take X.length) + B32 ^ X.length * c) (hle : dv B32 Y ≤ dv B32 X) : dv B32 zs = dv B32 X - dv B32 Y := by
  rw [List.take_length, dv_take_all _ _ _ hl, dv_take_all _ _ _ (by omega)] at h
  have hz2 := hs.dv_lt
  rw [hz] at hz2
  rcases Nat.eq_zero_or_pos c with rfl | hc
  · omega
  · have : B32 ^ X.length * 1 ≤ B32 ^ X.length * c := Nat.mul_le_mul_left _ hc
    omega

set_option maxHeartbeats 400000 in
theorem difference_any (A B : Option Addr) (X Y : List Nat) (cx cy : Nat) (w : World) (hX : IsD w A X) (hY : IsD w B Y) (hl : Y.length ≤ X.length) (hle : dv B32 Y ≤ dv B32 X) (hm : X.length ≤ 1048576) :
    Calls Tryz.prog 73 #[.slice A X.length cx, .slice B Y.length cy] w (MadeD w X.length (dv B32 X - dv B32 Y)) := by
  obtain ⟨i0, hi0, hz0, hz1, hz2⟩ := info_parts info_u32
  go_enter Tryz.func73, Tryz.ntmps73
  go_wp2_with (at_make; refine wpList_make_full _ rfl _ _ 98 rfl w.heap.size 124 i0 (.int .u32 0) 1 Tryz.underlying98 hi0 hz0 hz1 _ _ _ _ X.length rfl rfl (by omega) (by omega) (by rw [hz2]; omega) (by unfold maxLen; omega) (Nat.le_refl _) ?_; intro w0 hown0 hgrow0)
  have hb0 : Below w.heap.size w w0 := (Below.refl _ _).grown hgrow0 (Nat.le_refl _) (fun g hg => by cases hg)
  rw [madeD] at hown0
  have hd0 := Dg.of_own hown0
  clear hown0 hgrow0
  go_loopw [6, 14] (fun c i wr => ∃ (k cn : Nat) (zs : List Nat), k ≤ X.length ∧ i = .int .i64 k ∧ c = .int .u64 cn ∧ cn ≤ 1 ∧ zs.length = X.length ∧ Small zs ∧ Dg wr w.heap.size zs ∧ Hid (dv B32 (zs.take k) + dv B32 (Y.take k) = dv B32 (X.take k) + B32 ^ k * cn) ∧ Below w.heap.size w wr) (fun _ i _ => X.length - (intOf i).toNat)
  case atStart => exact ⟨0, 0, _, Nat.zero_le _, rfl, rfl, by omega, List.length_replicate, Small.replicate _, hd0, Lib.hid (by simp [dv]), hb0⟩
  case round =>
    obtain ⟨k, cn, zs, hk, rfl, rfl, hcn, hzl, hzs, hdz, HE, hbel⟩ := hrel
    by_cases hlt : k < X.length
    · obtain ⟨gx, ox, rfl, hgx, hcx⟩ := hX.2 (by omega)
      have hcx' := (hbel.cell (p := ⟨gx, ox + k, none⟩) hgx).trans (hcx k hlt)
      obtain ⟨x, hx⟩ : ∃ x, x = X.getD k 0 := ⟨_, rfl⟩
      have hx32 : x < 4294967296 := by rw [hx]; exact hX.1.at k
      rw [← hx] at hcx'
      have hk1 : k < zs.length := by omega
      have hfr := hdz.frozen k
      have hcz := hdz.cell k hk1
      obtain ⟨z, hz⟩ : ∃ z, z = zs.getD k 0 := ⟨_, rfl⟩
      rw [← hz] at hcz
      have HY2 := Lib.hid (hY.1.at k)
      have HX := Lib.hid hx
      clear hx hz hcx
      by_cases hy : k < Y.length
      · obtain ⟨gy, oy, rfl, hgy, hcy⟩ := hY.2 (by omega)
        have hcy' := (hbel.cell (p := ⟨gy, oy + k, none⟩) hgy).trans (hcy k hy)
        obtain ⟨y, hyd⟩ : ∃ y, y = Y.getD k 0 := ⟨_, rfl⟩
        have hy32 : y < 4294967296 := by rw [hyd]; exact HY2.out
        rw [← hyd] at hcy'
        have HYD := Lib.hid hyd
        clear hyd hcy
        have hst := diff_step (r := (x + 4294967296 - y - cn) % 4294967296) (q := 1 - (x + 4294967296 - y - cn) / 4294967296) hk1 HE.out (by rw [← HX.out, ← HYD.out]; unfold B32; omega)
        have ST := Lib.hid hst
        clear hst
        go_wp2
        go_roundw
        case rel => exact ⟨k + 1, 1 - (x + 4294967296 - y - cn) / 4294967296, zs.set k ((x + 4294967296 - y - cn) % 4294967296), by omega, by go_num, val_int (diff_hi x cn y hx32 hcn hy32), by omega, by simpa using hzl, hzs.set _ _ (Nat.mod_lt _ (by decide)), by rw [diff_lo x cn y hx32 hcn hy32]; exact hdz.set _ _, ST, hbel.setCell (Nat.le_refl _) _⟩
        case measure => simp [intOf]; omega
      · have hy0 : Y.getD k 0 = 0 := by rw [List.getD_eq_getElem?_getD, List.getElem?_eq_none (by omega)]; rfl
        have HYD := Lib.hid hy0
        clear hy0
        have hst := diff_step (r := (x + 4294967296 - cn) % 4294967296) (q := 1 - (x + 4294967296 - cn) / 4294967296) hk1 HE.out (by rw [← HX.out, HYD.out]; unfold B32; omega)
        have ST := Lib.hid hst
        clear hst
        go_wp2
        go_roundw
        case rel => exact ⟨k + 1, 1 - (x + 4294967296 - cn) / 4294967296, zs.set k ((x + 4294967296 - cn) % 4294967296), by omega, by go_num, val_int (diff_hi0 x cn hx32 hcn), by omega, by simpa using hzl, hzs.set _ _ (Nat.mod_lt _ (by decide)), by rw [diff_lo0 x cn hx32 hcn]; exact hdz.set _ _, ST, hbel.setCell (Nat.le_refl _) _⟩
        case measure => simp [intOf]; omega
    · have hke : k = X.length := by omega
      have HK := Lib.hid hke
      clear hke
      go_wp2
      go_ret
      exact ⟨zs, by rw [hzl]; rfl, hzl, hzs, hdz, diff_last hl hzl hzs (by rw [← HK.out]; exact HE.out) hle, hbel⟩
end Go.Proofs.YtmiafkbjmkaebaaGreat

namespace Go.Proofs.YtmiafkbjmkaebaaGreat
open Go.RowKit Num

theorem dv_drop (B : Nat) (xs : List Nat) (k : Nat) (h : k < xs.length) : dv B (xs.drop k) = xs.getD k 0 + B * dv B (xs.drop (k + 1)) := by
  rw [List.drop_eq_getElem_cons h, dv_cons]
  simp [List.getD_eq_getElem?_getD, List.getElem?_eq_getElem h]
theorem dv_drop_set (B : Nat) (xs : List Nat) (k d : Nat) (h : k < xs.length) : dv B ((xs.set k d).drop k) = d + B * dv B (xs.drop (k + 1)) := by
  rw [dv_drop B _ _ (by simpa using h), List.drop_set_of_lt (by omega)]
  simp [List.getD_eq_getElem?_getD, h]

/-- divideShort hands back the quotient's digits in a new slice, and the remainder. -/
def MadeQ (w : World) (n v d : Nat) (e : Ending) (w' : World) : Prop :=
  ∃ zs : List Nat, e = .returned (.tuple #[.slice (some ⟨w.heap.size, 0, none⟩) zs.length zs.length, .int .u32 (v % d : Nat)]) ∧ zs.length = n ∧ Small zs ∧ Dg w' w.heap.size zs ∧ dv B32 zs = v / d ∧ Below w.heap.size w w'

theorem short_step {X zs : List Nat} {n m d r t q r' : Nat} (hm : m < n) (hX : X.length = n) (hz : zs.length = n) (h : dv B32 (X.drop (m + 1)) = dv B32 (zs.drop (m + 1)) * d + r) (ht : t = r * B32 + X.getD m 0) (hq : t = q * d + r') :
    dv B32 (X.drop m) = dv B32 ((zs.set m q).drop m) * d + r' := by
  rw [dv_drop B32 X m (by omega), dv_drop_set B32 zs m q (by omega), h]
  have e1 : (q + B32 * dv B32 (zs.drop (m + 1))) * d = q * d + B32 * (dv B32 (zs.drop (m + 1)) * d) := by rw [Nat.add_mul, Nat.mul_assoc]
  rw [e1, Nat.mul_add]
  have e2 : B32 * r = r * B32 := Nat.mul_comm _ _
  omega
theorem short_last {X zs : List Nat} {d r : Nat} (h : dv B32 (X.drop 0) = dv B32 (zs.drop 0) * d + r) (hr : r < d) : dv B32 zs = dv B32 X / d ∧ r = dv B32 X % d := by
  simp only [List.drop_zero] at h
  have := Nat.mul_comm (dv B32 zs) d
  constructor
  · rw [h, this, Nat.mul_add_div (by omega), Nat.div_eq_of_lt hr, Nat.add_zero]
  · rw [h, this, Nat.mul_add_mod, Nat.mod_eq_of_lt hr]

set_option maxHeartbeats 400000 in
theorem short_any (A : Option Addr) (X : List Nat) (cx d : Nat) (w : World) (hX : IsD w A X) (hd : 0 < d) (hd2 : d < 4294967296) (hm : X.length ≤ 1048576) :
    Calls Tryz.prog 103 #[.slice A X.length cx, .int .u32 d] w (MadeQ w X.length (dv B32 X) d) := by
  obtain ⟨i0, hi0, hz0, hz1, hz2⟩ := info_parts info_u32
  go_enter Tryz.func103, Tryz.ntmps103
  go_wp2_with (at_make; refine wpList_make_full _ rfl _ _ 98 rfl w.heap.size 124 i0 (.int .u32 0) 1 Tryz.underlying98 hi0 hz0 hz1 _ _ _ _ X.length rfl rfl (by omega) (by omega) (by rw [hz2]; omega) (by unfold maxLen; omega) (Nat.le_refl _) ?_; intro w0 hown0 hgrow0)
  have hb0 : Below w.heap.size w w0 := (Below.refl _ _).grown hgrow0 (Nat.le_refl _) (fun g hg => by cases hg)
  rw [madeD] at hown0
  have hd0 := Dg.of_own hown0
  clear hown0 hgrow0
  go_loopw [7, 15] (fun c i wr => ∃ (k r : Nat) (zs : List Nat), k ≤ X.length ∧ i = .int .i64 k ∧ c = .int .u64 r ∧ r < d ∧ zs.length = X.length ∧ Small zs ∧ Dg wr w.heap.size zs ∧ Hid (dv B32 (X.drop (X.length - k)) = dv B32 (zs.drop (X.length - k)) * d + r) ∧ Below w.heap.size w wr) (fun _ i _ => X.length - (intOf i).toNat)
  case atStart => exact ⟨0, 0, _, Nat.zero_le _, rfl, rfl, hd, List.length_replicate, Small.replicate _, hd0, Lib.hid (by simp [dv]), hb0⟩
  case round =>
    obtain ⟨k, r, zs, hk, rfl, rfl, hr, hzl, hzs, hdz, HE, hbel⟩ := hrel
    by_cases hlt : k < X.length
    · obtain ⟨gx, ox, rfl, hgx, hcx⟩ := hX.2 (by omega)
      obtain ⟨m, hm1⟩ : ∃ m, m + 1 = X.length - k := ⟨X.length - k - 1, by omega⟩
      have hmn : ((X.length : Int) - 1 - (k : Int)) = (m : Int) := by omega
      have hml : m < X.length := by omega
      have hcx' := (hbel.cell (p := ⟨gx, ox + m, none⟩) hgx).trans (hcx m hml)
      obtain ⟨x, hx⟩ : ∃ x, x = X.getD m 0 := ⟨_, rfl⟩
      have hx32 : x < 4294967296 := by rw [hx]; exact hX.1.at m
      rw [← hx] at hcx'
      have hfr := hdz.frozen m
      have hcz := hdz.cell m (by omega)
      obtain ⟨z, hz⟩ : ∃ z, z = zs.getD m 0 := ⟨_, rfl⟩
      rw [← hz] at hcz
      obtain ⟨t, ht⟩ : ∃ t, t = r * 4294967296 + x := ⟨_, rfl⟩
      have ht64 : t < 18446744073709551616 := by omega
      have hor : bits BinOp.or IntKind.u64 ((r : Int) * 4294967296) (x : Int) = (t : Int) := by
        rw [show ((r : Int) * 4294967296) = ((r * 4294967296 : Nat) : Int) from by omega, or_join 32 _ _ (by omega) hx32 (by omega), ht]
      obtain ⟨q, hq⟩ : ∃ q, q = t / d := ⟨_, rfl⟩
      obtain ⟨r', hr'⟩ : ∃ r', r' = t % d := ⟨_, rfl⟩
      have hq32 : q < 4294967296 := by
        rw [hq, Nat.div_lt_iff_lt_mul hd]
        have : (r + 1) * 4294967296 ≤ d * 4294967296 := Nat.mul_le_mul_right _ hr
        omega
      have hrd : r' < d := by rw [hr']; exact Nat.mod_lt _ hd
      have hdiv : (t : Int) / (d : Int) = (q : Int) := by rw [hq]; rfl
      have hmod : (t : Int) % (d : Int) = (r' : Int) := by rw [hr']; rfl
      have hst := short_step (q := q) (r' := r') (t := t) hml rfl hzl (by rw [hm1]; exact HE.out) (by rw [ht, hx]; rfl) (by rw [hq, hr', Nat.mul_comm]; exact (Nat.div_add_mod t d).symm)
      have HST := Lib.hid hst
      have HM := Lib.hid hm1
      have HT := Lib.hid ht64
      clear hst hm1 hx hz hcx ht hq hr' ht64
      have HMOD := Lib.hid hmod
      clear hmod
      go_wp2
      go_roundw
      case rel => exact ⟨k + 1, r', zs.set m q, by omega, by go_num, val_int HMOD.out, hrd, by simpa using hzl, hzs.set _ _ hq32, hdz.set _ _, by rw [show X.length - (k + 1) = m from by have := HM.out; omega]; exact HST, hbel.setCell (Nat.le_refl _) _⟩
      case measure => simp [intOf]; omega
    · have hke : X.length - k = 0 := by omega
      have HL := Lib.hid (short_last (X := X) (zs := zs) (by rw [← hke]; exact HE.out) hr)
      clear hke
      go_wp2
      go_ret2
      exact ⟨zs, by rw [← HL.out.2, hzl]; rfl, hzl, hzs, hdz, HL.out.1, hbel⟩
end Go.Proofs.YtmiafkbjmkaebaaGreat

namespace Go.Proofs.YtmiafkbjmkaebaaGreat
open Go.RowKit Num

/-- trim hands back the digits up to the last one that is not 0. -/
def Trimmed (A : Option Addr) (X : List Nat) (cx : Nat) (w : World) (e : Ending) (w' : World) : Prop :=
  ∃ m, m ≤ X.length ∧ (m = 0 ∨ X.getD (m - 1) 0 ≠ 0) ∧ dv B32 (X.take m) = dv B32 X ∧ e = .returned (.slice A m cx) ∧ w = w'

theorem trim_step {X : List Nat} {m : Nat} (h : dv B32 (X.take (m + 1)) = dv B32 X) (h0 : X.getD m 0 = 0) : dv B32 (X.take m) = dv B32 X := by
  rw [← h, dv_take_next, h0]; simp

set_option maxHeartbeats 400000 in
theorem trim_any (A : Option Addr) (X : List Nat) (cx : Nat) (w : World) (hX : IsD w A X) (hc : X.length ≤ cx) (hm : X.length ≤ 1048576) :
    Calls Tryz.prog 102 #[.slice A X.length cx] w (Trimmed A X cx w) := by
  go_enter Tryz.func102, Tryz.ntmps102
  go_wp2
  go_loop [0] (fun v => ∃ m : Nat, m ≤ X.length ∧ v = .slice A m cx ∧ Hid (dv B32 (X.take m) = dv B32 X)) (fun v => match v with | .slice _ m _ => m | _ => 0)
  case atStart => exact ⟨X.length, Nat.le_refl _, rfl, Lib.hid (by rw [List.take_length])⟩
  case round =>
    obtain ⟨m, hmX, rfl, HE⟩ := hrel
    by_cases h0 : 0 < m
    · obtain ⟨gx, ox, rfl, hgx, hcx⟩ := hX.2 (by omega)
      obtain ⟨k, rfl⟩ : ∃ k, m = k + 1 := ⟨m - 1, by omega⟩
      have hcx' := hcx k (by omega)
      obtain ⟨x, hx⟩ : ∃ x, x = X.getD k 0 := ⟨_, rfl⟩
      rw [← hx] at hcx'
      have HX := Lib.hid hx
      clear hx hcx
      by_cases hz : x = 0
      · subst hz
        go_wp2
        go_round
        case rel => exact ⟨k, by omega, rfl, Lib.hid (trim_step HE.out HX.out.symm)⟩
        case measure => show k < k + 1; omega
      · have hz' : ((x : Int) == 0) = false := by simpa using hz
        go_wp2
        go_ret
        exact ⟨k + 1, hmX, .inr (by rw [Nat.add_sub_cancel, ← HX.out]; exact hz), HE.out, rfl, rfl⟩
    · obtain rfl : m = 0 := by omega
      go_wp2
      go_ret
      exact ⟨0, Nat.zero_le _, .inl rfl, HE.out, rfl, rfl⟩
end Go.Proofs.YtmiafkbjmkaebaaGreat

namespace Go.Proofs.YtmiafkbjmkaebaaGreat
open Go.RowKit Num

/-- A number without its last j bytes. -/
def shN (V j : Nat) : Nat := V / 256 ^ j
theorem top_eq : Top = B32 ^ 32 := by unfold Top B32; decide
theorem trimmed_le {X : List Nat} {m : Nat} (hm : m ≤ X.length) (h1 : m = 0 ∨ X.getD (m - 1) 0 ≠ 0) (h2 : dv B32 (X.take m) = dv B32 X) (hs : Small X) : m ≤ 32 ↔ dv B32 X < Top := by
  have hl : (X.take m).length = m := by rw [List.length_take]; omega
  constructor
  · intro h
    have := (hs.take m).dv_lt
    rw [h2, hl] at this
    rw [top_eq]
    exact Nat.lt_of_lt_of_le this (Nat.pow_le_pow_right (by decide) h)
  · intro h
    apply Decidable.byContradiction
    intro hc
    have h1 : X.getD (m - 1) 0 ≠ 0 := by rcases h1 with h1 | h1; omega; exact h1
    have hn := dv_take_next B32 X (m - 1)
    rw [show m - 1 + 1 = m from by omega, h2] at hn
    have h3 : B32 ^ (m - 1) * 1 ≤ B32 ^ (m - 1) * X.getD (m - 1) 0 := Nat.mul_le_mul_left _ (by omega)
    have h4 : B32 ^ 32 ≤ B32 ^ (m - 1) := Nat.pow_le_pow_right (by decide) (by omega)
    rw [top_eq] at h
    omega
theorem digit_byte (xs : List Nat) (hx : Small xs) (k : Nat) (n : Nat) (hn : n = xs.getD (k / 4) 0) : ((n : Int) / 2 ^ (8 * (k % 4))) % 256 = ((shN (dv B32 xs) k % 256 : Nat) : Int) := by
  have := dv_byte xs hx k
  unfold shN B32
  rw [this, ← hn]
  have h2 : (2 : Int) ^ (8 * (k % 4)) = ((256 ^ (k % 4) : Nat) : Int) := by rw [show (256 : Nat) ^ (k % 4) = 2 ^ (8 * (k % 4)) from by rw [Nat.pow_mul]]; simp
  rw [h2]
  omega

def Same (w : World) (v : Value) (e : Ending) (w' : World) : Prop := e = .returned v ∧ w = w'
def Made (w : World) (v : Value) (e : Ending) (w' : World) : Prop := e = .returned v ∧ Below w.heap.size w w'

set_option maxHeartbeats 400000 in
theorem natof_long (A : Option Addr) (X : List Nat) (cx : Nat) (w : World) (hX : IsD w A X) (hc : X.length ≤ cx) (hm : X.length ≤ 1048576) (hv : Top ≤ dv B32 X) :
    Calls Tryz.prog 72 #[.slice A X.length cx] w (Made w (.tuple #[.string (bs 0), .int .i64 5])) := by
  go_enter Tryz.func72, Tryz.ntmps72
  go_wp2_with fail
  refine (trim_any A X cx _ hX hc hm).mono ?_
  rintro e w' ⟨m, hm1, hm2, hm3, rfl, rfl⟩
  have h32 : ¬ m ≤ 32 := by rw [trimmed_le hm1 hm2 hm3 hX.1]; omega
  clear hm2 hm3 hv
  go_wp2
  go_ret2
  exact ⟨by rw [bs_zero]; rfl, Below.refl _ _⟩

set_option maxHeartbeats 1000000 in
set_option maxRecDepth 100000 in
theorem natof_ok (A : Option Addr) (X : List Nat) (cx : Nat) (w : World) (hX : IsD w A X) (hc : X.length ≤ cx) (hm : X.length ≤ 1048576) (hv : dv B32 X < Top) :
    Calls Tryz.prog 72 #[.slice A X.length cx] w (Made w (.tuple #[.string (bs (dv B32 X)), .int .i64 0])) := by
  obtain ⟨i0, hi0, hz0, hz1, hz2⟩ := info_parts info_u8
  go_enter Tryz.func72, Tryz.ntmps72
  go_wp2_with fail
  refine (trim_any A X cx _ hX hc hm).mono ?_
  rintro e w' ⟨m, hm1, hm2, hm3, rfl, rfl⟩
  have h32 : m ≤ 32 := by rw [trimmed_le hm1 hm2 hm3 hX.1]; exact hv
  have hZ := hX.take m
  have hzl : (X.take m).length = m := by rw [List.length_take]; omega
  rw [← hm3] at hv
  have HD := Lib.hid hm3
  clear hX hm2 hm3 hc hm
  generalize X.take m = Z at *
  clear hm1
  subst hzl
  obtain ⟨V, hV⟩ : ∃ V, V = dv B32 Z := ⟨_, rfl⟩
  rw [← hV] at hv
  have HV := Lib.hid hV
  have HVT := Lib.hid hv
  clear hV hv
  go_wp2_with (at_make; refine wpList_make_own _ rfl _ _ 88 rfl w.heap.size 5 i0 (.int .u8 0) 1 Tryz.underlying88 hi0 hz0 hz1 _ _ _ (4 * Z.length) rfl rfl (by omega) (by rw [hz2]; omega) (by unfold maxLen; omega) (Nat.le_refl _) ?_; intro w0 hown0 hgrow0)
  have hb0 : Below w.heap.size w w0 := (Below.refl _ _).grown hgrow0 (Nat.le_refl _) (fun g hg => by cases hg)
  clear hgrow0
  go_loopw [4, 20] (fun v c wr => ∃ i j : Nat, Hid (i + j = 4 * Z.length) ∧ i ≤ 4 * Z.length ∧ c = .int .i64 i ∧ wr.ownsRow w.heap.size 5 1 v (cb (shN V j)).length (cellsB (cb (shN V j))) ∧ Below w.heap.size w wr) (fun _ c _ => 4 * Z.length - (intOf c).toNat)
  case atStart => exact ⟨0, 4 * Z.length, Lib.hid (by omega), by omega, rfl, by
      have h0 : shN V (4 * Z.length) = 0 := by
        unfold shN
        refine Nat.div_eq_of_lt ?_
        have := hZ.1.dv_lt
        rw [← HV.out] at this
        rw [Nat.pow_mul]
        exact this
      rw [h0, cb_zero]; exact hown0, hb0⟩
  case round =>
    obtain ⟨i, j, HIJ, hi, rfl, hown, hbel⟩ := hrel
    obtain ⟨A1, cap, rfl⟩ := owns_form hown
    by_cases hlt : i < 4 * Z.length
    · obtain ⟨p, rfl⟩ : ∃ p, j = p + 1 := ⟨j - 1, by have := HIJ.out; omega⟩
      have hp : (4 * (Z.length : Int) - 1 - (i : Int)) = (p : Int) := by have := HIJ.out; omega
      have hpl : p / 4 < Z.length := by have := HIJ.out; omega
      obtain ⟨gx, ox, rfl, hgx, hcx⟩ := hZ.2 (by omega)
      have hcx' := (hbel.cell (p := ⟨gx, ox + p / 4, none⟩) hgx).trans (hcx (p / 4) hpl)
      obtain ⟨x, hx⟩ : ∃ x, x = Z.getD (p / 4) 0 := ⟨_, rfl⟩
      have hby := digit_byte Z hZ.1 p x hx
      rw [← hx] at hcx'
      obtain ⟨b, hb⟩ : ∃ b, b = shN V p % 256 := ⟨_, rfl⟩
      rw [← HV.out, ← hb] at hby
      have HB := Lib.hid hb
      have HX := Lib.hid hx
      clear hx hb hcx
      have hpp : p < 128 := by have := HIJ.out; omega
      have hb2 : b < 256 := by have := HB.out; omega
      by_cases hm : shN V p = 0
      · have hm0 : shN V (p + 1) = 0 := by have := div_byte V p; unfold shN at hm ⊢; omega
        have hb0 : b = 0 := by rw [HB.out, hm]
        have HM := Lib.hid hm
        rw [hm0, cb_zero] at hown ⊢
        subst hb0
        clear hm0 hm
        go_wp2
        go_roundw
        case rel => exact ⟨i + 1, p, Lib.hid (by have := HIJ.out; omega), by have := HIJ.out; omega, by go_num, by rw [HM.out, cb_zero]; exact hown, hbel⟩
        case measure => simp only [intOf]; have := HIJ.out; omega
      · have hs' : cb (shN V p) = cb (shN V (p + 1)) ++ [UInt8.ofNat b] := cb_next HB.out hm
        have hbt : ((UInt8.ofNat b).toNat : Int) = b := by rw [UInt8.toNat_ofNat']; omega
        have hk8 : (cb (shN V (p + 1))).length ≤ 128 := by
          rw [cb_length_le]
          exact Nat.lt_of_le_of_lt (Nat.div_le_self _ _) HVT.out
        have hbase := hbel.size
        have HS' := Lib.hid hs'
        have HBT := Lib.hid hbt
        have hdec : ((b : Int) != 0) = true ∨ ((b : Int) != 0) = false ∧ 0 < (cb (shN V (p + 1))).length := by
          by_cases h0 : b = 0
          · right
            refine ⟨by simp [h0], ?_⟩
            have h1 : shN V (p + 1) ≠ 0 := by
              have := div_byte V p
              have := HB.out
              unfold shN at *
              omega
            have : cb (shN V (p + 1)) ≠ [] := fun e => h1 (cb_eq_nil.1 e)
            exact List.length_pos_iff.2 this
          · left; simpa using h0
        clear hs' hbt hm
        have hnw : ∀ (C : Array Value) (u : Value), C[0]? = some u → ∀ (j : Nat) (v : Value), [u][j]? = some v → (wr.alloc (.cells C 5)).cell? (Addr.add ⟨wr.heap.size, 0, none⟩ j) = some v := by
          intro C u hC j v hj
          match j, hj with
          | 0, hj =>
            simp at hj; subst hj
            rw [show Addr.add ⟨wr.heap.size, 0, none⟩ 0 = ⟨wr.heap.size, 0, none⟩ from rfl, World.cell?_alloc_mark]
            exact hC
        have hone : ∀ u ∈ [Value.int .u8 (b : Int)], u.oneCell' = true := by intro u hu; simp at hu; subst hu; rfl
        have HNW := Lib.hid hnw
        have HONE := Lib.hid hone
        clear hnw hone
        rcases hdec with hz | ⟨hz, hp'⟩
        · go_wp2_with (at_builtin; refine wpList_append_own _ rfl _ _ 88 rfl w.heap.size 5 i0 (.int .u8 0) 1 1 Tryz.underlying88 hi0 hz0 hz1 hz2 rfl (by decide) _ _ _ rfl (hown.alloc _) ⟨wr.heap.size, 0, none⟩ 1 1 [.int .u8 (b : Int)] rfl rfl (HNW.out _ _ rfl) HONE.out (by unfold maxLen; omega) (by omega) (by simp; omega) ?_; intro v1 w1 hown1 hg1 _; have hbel1 := (hbel.alloc hbel.size (.cells #[.int .u8 (b : Int)] 5)).grown hg1 (by simp; omega) (fun g hg => (hown.lt g hg).1))
          go_roundw
          case rel => exact ⟨i + 1, p, Lib.hid (by have := HIJ.out; omega), by have := HIJ.out; omega, by go_num, by rw [HS'.out, cellsB_snoc, HBT.out, List.length_append]; exact hown1, hbel1⟩
          case measure => simp only [intOf]; have := HIJ.out; omega
        · go_wp2_with (at_builtin; refine wpList_append_own _ rfl _ _ 88 rfl w.heap.size 5 i0 (.int .u8 0) 1 1 Tryz.underlying88 hi0 hz0 hz1 hz2 rfl (by decide) _ _ _ rfl (hown.alloc _) ⟨wr.heap.size, 0, none⟩ 1 1 [.int .u8 (b : Int)] rfl rfl (HNW.out _ _ rfl) HONE.out (by unfold maxLen; omega) (by omega) (by simp; omega) ?_; intro v1 w1 hown1 hg1 _; have hbel1 := (hbel.alloc hbel.size (.cells #[.int .u8 (b : Int)] 5)).grown hg1 (by simp; omega) (fun g hg => (hown.lt g hg).1))
          go_roundw
          case rel => exact ⟨i + 1, p, Lib.hid (by have := HIJ.out; omega), by have := HIJ.out; omega, by go_num, by rw [HS'.out, cellsB_snoc, HBT.out, List.length_append]; exact hown1, hbel1⟩
          case measure => simp only [intOf]; have := HIJ.out; omega
    · have hie : i = 4 * Z.length := by have := HIJ.out; omega
      have hj0 : j = 0 := by have := HIJ.out; omega
      subst hj0
      have hsz : (⟨(cb (shN V 0)).toArray⟩ : ByteArray) = bs (dv B32 X) := by
        rw [← HD.out, ← HV.out]; unfold shN bs; simp
      have hcv := owns_string (P := Tryz.prog) (src := 88) (dst := 22) hown Tryz.underlying88 Tryz.underlying5 Tryz.underlying22
      have HSZ := Lib.hid hsz
      clear HIJ hie hi hsz
      go_wp2
      go_ret2
      exact ⟨by rw [← HSZ.out]; rfl, hbel⟩
end Go.Proofs.YtmiafkbjmkaebaaGreat

namespace Go.Proofs.YtmiafkbjmkaebaaGreat
open Go.RowKit Num

/-- How many digits a number has. -/
def dlen (n : Nat) : Nat := ((bs n).size + 3) / 4
/-- digitsOf hands back the digits of a number in a new slice. -/
def Digits (w : World) (n : Nat) (e : Ending) (w' : World) : Prop :=
  ∃ zs : List Nat, e = .returned (.slice (some ⟨w.heap.size, 0, none⟩) zs.length zs.length) ∧ zs.length = dlen n ∧ Small zs ∧ Dg w' w.heap.size zs ∧ dv B32 zs = n ∧ Below w.heap.size w w'

theorem pow_split (i : Nat) : 256 ^ i = B32 ^ (i / 4) * 256 ^ (i % 4) := by
  unfold B32
  have h : (4294967296 : Nat) = 256 ^ 4 := by decide
  rw [h, ← Nat.pow_mul, ← Nat.pow_add]
  congr 1
  omega
theorem low_digit {n i : Nat} {zs : List Nat} (h : dv B32 zs = n % 256 ^ i) : zs.getD (i / 4) 0 < 256 ^ (i % 4) := by
  have h1 := dv_ge B32 zs (i / 4)
  have h2 : n % 256 ^ i < 256 ^ i := Nat.mod_lt _ (Nat.pow_pos (by decide))
  rw [h] at h1
  have h3 : B32 ^ (i / 4) * zs.getD (i / 4) 0 < B32 ^ (i / 4) * 256 ^ (i % 4) := by rw [← pow_split]; omega
  exact Nat.lt_of_mul_lt_mul_left h3
theorem digit_step {n i b : Nat} {zs : List Nat} (h : dv B32 zs = n % 256 ^ i) (hi : i / 4 < zs.length) (hb : b = n / 256 ^ i % 256) :
    dv B32 (zs.set (i / 4) (zs.getD (i / 4) 0 + b * 256 ^ (i % 4))) = n % 256 ^ (i + 1) := by
  rw [dv_set_add B32 zs _ _ hi, h, mod_next, ← hb]
  have : 256 ^ i * b = B32 ^ (i / 4) * (b * 256 ^ (i % 4)) := by rw [pow_split, Nat.mul_assoc, Nat.mul_comm b]
  omega
theorem small_pow {z b r : Nat} (hr : r < 4) (hz : z < 256 ^ r) (hb : b < 256) : z + b * 256 ^ r < 4294967296 ∧ b * 256 ^ r < 4294967296 := by
  have : r = 0 ∨ r = 1 ∨ r = 2 ∨ r = 3 := by omega
  rcases this with rfl | rfl | rfl | rfl <;> simp at hz ⊢ <;> omega
theorem byte_shl {b r : Nat} : ((b : Int) * 2 ^ (8 * r)) = ((b * 256 ^ r : Nat) : Int) := by
  rw [show (256 : Nat) ^ r = 2 ^ (8 * r) from by rw [Nat.pow_mul]]; simp
theorem byte_or {z b r : Nat} (hr : r < 4) (hz : z < 256 ^ r) (hb : b < 256) : bits BinOp.or IntKind.u32 (z : Int) ((b * 256 ^ r : Nat) : Int) = ((z + b * 256 ^ r : Nat) : Int) := by
  have h := small_pow hr hz hb
  rw [u32_or_nat _ _ (by omega) h.2, Nat.or_comm, nat_join (8 * r) _ _ ?_ ?_, Nat.add_comm]
  · rw [Nat.pow_mul]; exact Nat.mul_mod_left _ _
  · rw [Nat.pow_mul]; exact hz

set_option maxHeartbeats 1000000 in
set_option maxRecDepth 100000 in
theorem digitsof_any (n : Nat) (w : World) (hn : n < Top) : Calls Tryz.prog 74 #[.string (bs n)] w (Digits w n) := by
  obtain ⟨i0, hi0, hz0, hz1, hz2⟩ := info_parts info_u32
  have hs := bs_small hn
  have HN := Lib.hid hn
  clear hn
  go_enter Tryz.func74, Tryz.ntmps74
  go_wp2_with (at_make; go_loud (refine wpList_make_full _ rfl _ _ 98 rfl w.heap.size 124 i0 (.int .u32 0) 1 Tryz.underlying98 hi0 hz0 hz1 _ _ _ _ (dlen n) rfl rfl (by unfold dlen; omega) (by unfold dlen; omega) (by rw [hz2]; unfold dlen; omega) (by unfold maxLen dlen; omega) (Nat.le_refl _) ?_); intro w0 hown0 hgrow0)
  have hb0 : Below w.heap.size w w0 := (Below.refl _ _).grown hgrow0 (Nat.le_refl _) (fun g hg => by cases hg)
  rw [madeD] at hown0
  have hd0 := Dg.of_own hown0
  clear hown0 hgrow0
  have HDL : Hid (dlen n = ((bs n).size + 3) / 4) := rfl
  go_loopw [14] (fun c wr => ∃ (i : Nat) (zs : List Nat), i ≤ (bs n).size ∧ c = .int .i64 i ∧ zs.length = dlen n ∧ Small zs ∧ Dg wr w.heap.size zs ∧ Hid (dv B32 zs = n % 256 ^ i) ∧ Below w.heap.size w wr) (fun c _ => (bs n).size - (intOf c).toNat)
  case atStart => exact ⟨0, _, Nat.zero_le _, rfl, List.length_replicate, Small.replicate _, hd0, Lib.hid (by simp [dv_replicate, Nat.mod_one]), hb0⟩
  case round =>
    obtain ⟨i, zs, hi, rfl, hzl, hzs, hdz, HE, hbel⟩ := hrel
    by_cases hlt : i < (bs n).size
    · obtain ⟨p, hp⟩ : ∃ p, p + 1 + i = (bs n).size := ⟨(bs n).size - 1 - i, by omega⟩
      have hpe : ((bs n).size : Int) - 1 - (i : Int) = (p : Int) := by omega
      have hps : p < (bs n).size := by omega
      have hil : i / 4 < dlen n := by unfold dlen; omega
      have hb : (bs n)[p].toNat = n / 256 ^ i % 256 := by
        have := cb_get n i (by rw [← bs_size]; exact hlt)
        rw [← this, bs_getElem n p hps]
        congr 2
        rw [← bs_size]; omega
      obtain ⟨b, hbd⟩ : ∃ b, b = n / 256 ^ i % 256 := ⟨_, rfl⟩
      rw [← hbd] at hb
      have hb' : ((bs n)[p].toNat : Int) = (b : Int) := by rw [hb]
      have hb2 : b < 256 := by omega
      have hlow := low_digit HE.out
      have hst := digit_step HE.out (by omega) hbd
      obtain ⟨z, hz⟩ : ∃ z, z = zs.getD (i / 4) 0 := ⟨_, rfl⟩
      rw [← hz] at hlow hst
      have hcz := hdz.cell (i / 4) (by omega)
      rw [← hz] at hcz
      have hfr := hdz.frozen (i / 4)
      have hsm := small_pow (by omega) hlow hb2
      have hor : bits BinOp.or IntKind.u32 (z : Int) ((b : Int) * 2 ^ (8 * (i % 4)) % 4294967296) = ((z + b * 256 ^ (i % 4) : Nat) : Int) := by
        rw [byte_shl, show (((b * 256 ^ (i % 4) : Nat) : Int) % 4294967296) = ((b * 256 ^ (i % 4) : Nat) : Int) from by omega]
        exact byte_or (by omega) hlow hb2
      have HST := Lib.hid hst
      have HOR := Lib.hid hor
      have HSM := Lib.hid hsm
      have HLOW := Lib.hid hlow
      have HP := Lib.hid hp
      clear hst hor hsm hlow hp hz hbd hb
      go_wp2
      go_region
      go_wp2
      go_roundw
      case rel => exact ⟨i + 1, zs.set (i / 4) (z + b * 256 ^ (i % 4)), by omega, by go_num, by simpa using hzl, hzs.set _ _ HSM.out.1, by rw [HOR.out]; exact (hdz.set _ _).drew, HST, (hbel.setCell (Nat.le_refl _) _).drew⟩
      case measure => simp [intOf]; omega
    · have hie : i = (bs n).size := by omega
      have HI := Lib.hid hie
      clear hie
      go_wp2
      go_ret
      exact ⟨zs, by rw [hzl]; rfl, hzl, hzs, hdz, by rw [HE.out, HI.out]; exact Nat.mod_eq_of_lt (by have := cb_lt_pow n; rw [← bs_size] at this; exact this), hbel⟩
end Go.Proofs.YtmiafkbjmkaebaaGreat
