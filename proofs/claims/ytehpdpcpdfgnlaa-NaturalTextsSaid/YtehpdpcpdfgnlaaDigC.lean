/-
  Contract of natural.divideShort: the quotient and the remainder of digits and one digit.
-/
import Derived.Test.YtehpdpcpdfgnlaaDigA
namespace Go.Proofs.Ytehpdpcpdfgnlaa
open Go.RowKit Num

theorem dv_drop (B : Nat) (xs : List Nat) (k : Nat) (h : k < xs.length) : dv B (xs.drop k) = xs.getD k 0 + B * dv B (xs.drop (k + 1)) := by
  rw [List.drop_eq_getElem_cons h, dv_cons]
  simp [List.getD_eq_getElem?_getD, List.getElem?_eq_getElem h]
theorem dv_drop_set (B : Nat) (xs : List Nat) (k d : Nat) (h : k < xs.length) : dv B ((xs.set k d).drop k) = d + B * dv B (xs.drop (k + 1)) := by
  rw [dv_drop B _ _ (by simpa using h), List.drop_set_of_lt (by omega)]
  simp [List.getD_eq_getElem?_getD, h]

/-- divideShort hands back the quotient's digits in a new slice, and the remainder. -/
def MadeQ (w : World) (n v d : Nat) (e : Ending) (w' : World) : Prop :=
  ∃ zs : List Nat, e = .returned (.tuple #[.slice (some ⟨w.heap.size, 0, none⟩) zs.length zs.length, .int .u32 (v % d : Nat)]) ∧ zs.length = n ∧ Small zs ∧ Dg w' w.heap.size zs ∧ dv B32 zs = v / d ∧ Below w.heap.size w w'

theorem short_step {X zs : List Nat} {n m d r t q r' : Nat} (hm : m < n) (hX : X.length = n) (hz : zs.length = n) (h : dv B32 (X.drop (m + 1)) = dv B32 (zs.drop (m + 1)) * d + r) (ht : t = r * B32 + X.getD m 0) (hq : t = q * d + r') :
    dv B32 (X.drop m) = dv B32 ((zs.set m q).drop m) * d + r' := by
  rw [dv_drop B32 X m (by omega), dv_drop_set B32 zs m q (by omega), h]
  have e1 : (q + B32 * dv B32 (zs.drop (m + 1))) * d = q * d + B32 * (dv B32 (zs.drop (m + 1)) * d) := by rw [Nat.add_mul, Nat.mul_assoc]
  rw [e1, Nat.mul_add]
  have e2 : B32 * r = r * B32 := Nat.mul_comm _ _
  omega
theorem short_last {X zs : List Nat} {d r : Nat} (h : dv B32 (X.drop 0) = dv B32 (zs.drop 0) * d + r) (hr : r < d) : dv B32 zs = dv B32 X / d ∧ r = dv B32 X % d := by
  simp only [List.drop_zero] at h
  have := Nat.mul_comm (dv B32 zs) d
  constructor
  · rw [h, this, Nat.mul_add_div (by omega), Nat.div_eq_of_lt hr, Nat.add_zero]
  · rw [h, this, Nat.mul_add_mod, Nat.mod_eq_of_lt hr]

set_option maxHeartbeats 400000 in
theorem short_any (A : Option Addr) (X : List Nat) (cx d : Nat) (w : World) (hX : IsD w A X) (hd : 0 < d) (hd2 : d < 4294967296) (hm : X.length ≤ 1048576) :
    Calls Try.prog 61 #[.slice A X.length cx, .int .u32 d] w (MadeQ w X.length (dv B32 X) d) := by
  obtain ⟨i0, hi0, hz0, hz1, hz2⟩ := info_parts info_u32
  go_enter Try.func61, Try.ntmps61
  go_wp2_with (at_make; refine wpList_make_full _ rfl _ _ 78 rfl w.heap.size 80 i0 (.int .u32 0) 1 Try.underlying78 hi0 hz0 hz1 _ _ _ _ X.length rfl rfl (by omega) (by omega) (by rw [hz2]; omega) (by unfold maxLen; omega) (Nat.le_refl _) ?_; intro w0 hown0 hgrow0)
  have hb0 : Below w.heap.size w w0 := (Below.refl _ _).grown hgrow0 (Nat.le_refl _) (fun g hg => by cases hg)
  rw [madeD] at hown0
  have hd0 := Dg.of_own hown0
  clear hown0 hgrow0
  go_loopw [7, 15] (fun c i wr => ∃ (k r : Nat) (zs : List Nat), k ≤ X.length ∧ i = .int .i64 k ∧ c = .int .u64 r ∧ r < d ∧ zs.length = X.length ∧ Small zs ∧ Dg wr w.heap.size zs ∧ Hid (dv B32 (X.drop (X.length - k)) = dv B32 (zs.drop (X.length - k)) * d + r) ∧ Below w.heap.size w wr) (fun _ i _ => X.length - (intOf i).toNat)
  case atStart => exact ⟨0, 0, _, Nat.zero_le _, rfl, rfl, hd, List.length_replicate, Small.replicate _, hd0, Lib.hid (by simp [dv]), hb0⟩
  case round =>
    obtain ⟨k, r, zs, hk, rfl, rfl, hr, hzl, hzs, hdz, HE, hbel⟩ := hrel
    by_cases hlt : k < X.length
    · obtain ⟨gx, ox, rfl, hgx, hcx⟩ := hX.2 (by omega)
      obtain ⟨m, hm1⟩ : ∃ m, m + 1 = X.length - k := ⟨X.length - k - 1, by omega⟩
      have hmn : ((X.length : Int) - 1 - (k : Int)) = (m : Int) := by omega
      have hml : m < X.length := by omega
      have hcx' := (hbel.cell (p := ⟨gx, ox + m, none⟩) hgx).trans (hcx m hml)
      obtain ⟨x, hx⟩ : ∃ x, x = X.getD m 0 := ⟨_, rfl⟩
      have hx32 : x < 4294967296 := by rw [hx]; exact hX.1.at m
      rw [← hx] at hcx'
      have hfr := hdz.frozen m
      have hcz := hdz.cell m (by omega)
      obtain ⟨z, hz⟩ : ∃ z, z = zs.getD m 0 := ⟨_, rfl⟩
      rw [← hz] at hcz
      obtain ⟨t, ht⟩ : ∃ t, t = r * 4294967296 + x := ⟨_, rfl⟩
      have ht64 : t < 18446744073709551616 := by omega
      have hor : bits BinOp.or IntKind.u64 ((r : Int) * 4294967296) (x : Int) = (t : Int) := by
        rw [show ((r : Int) * 4294967296) = ((r * 4294967296 : Nat) : Int) from by omega, or_join 32 _ _ (by omega) hx32 (by omega), ht]
      obtain ⟨q, hq⟩ : ∃ q, q = t / d := ⟨_, rfl⟩
      obtain ⟨r', hr'⟩ : ∃ r', r' = t % d := ⟨_, rfl⟩
      have hq32 : q < 4294967296 := by
        rw [hq, Nat.div_lt_iff_lt_mul hd]
        have : (r + 1) * 4294967296 ≤ d * 4294967296 := Nat.mul_le_mul_right _ hr
        omega
      have hrd : r' < d := by rw [hr']; exact Nat.mod_lt _ hd
      have hdiv : (t : Int) / (d : Int) = (q : Int) := by rw [hq]; rfl
      have hmod : (t : Int) % (d : Int) = (r' : Int) := by rw [hr']; rfl
      have hst := short_step (q := q) (r' := r') (t := t) hml rfl hzl (by rw [hm1]; exact HE.out) (by rw [ht, hx]; rfl) (by rw [hq, hr', Nat.mul_comm]; exact (Nat.div_add_mod t d).symm)
      have HST := Lib.hid hst
      have HM := Lib.hid hm1
      have HT := Lib.hid ht64
      clear hst hm1 hx hz hcx ht hq hr' ht64
      have HMOD := Lib.hid hmod
      clear hmod
      go_wp2
      go_roundw
      case rel => exact ⟨k + 1, r', zs.set m q, by omega, by go_num, val_int HMOD.out, hrd, by simpa using hzl, hzs.set _ _ hq32, hdz.set _ _, by rw [show X.length - (k + 1) = m from by have := HM.out; omega]; exact HST, hbel.setCell (Nat.le_refl _) _⟩
      case measure => simp [intOf]; omega
    · have hke : X.length - k = 0 := by omega
      have HL := Lib.hid (short_last (X := X) (zs := zs) (by rw [← hke]; exact HE.out) hr)
      clear hke
      go_wp2
      go_ret2
      exact ⟨zs, by rw [← HL.out.2, hzl]; rfl, hzl, hzs, hdz, HL.out.1, hbel⟩
end Go.Proofs.Ytehpdpcpdfgnlaa
