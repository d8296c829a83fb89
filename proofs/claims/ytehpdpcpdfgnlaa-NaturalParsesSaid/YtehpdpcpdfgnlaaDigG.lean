/-
  Contract of natural.digitsOf: the digits of a canonical string.
-/
import Derived.Test.YtehpdpcpdfgnlaaMem
import Derived.RegionTactic
import Derived.BigRegion
namespace Go.Proofs.Ytehpdpcpdfgnlaa
open Go.RowKit Num

/-- How many digits a number has. -/
def dlen (n : Nat) : Nat := ((bs n).size + 3) / 4
/-- digitsOf hands back the digits of a number in a new slice. -/
def Digits (w : World) (n : Nat) (e : Ending) (w' : World) : Prop :=
  ∃ zs : List Nat, e = .returned (.slice (some ⟨w.heap.size, 0, none⟩) zs.length zs.length) ∧ zs.length = dlen n ∧ Small zs ∧ Dg w' w.heap.size zs ∧ dv B32 zs = n ∧ Below w.heap.size w w'

theorem pow_split (i : Nat) : 256 ^ i = B32 ^ (i / 4) * 256 ^ (i % 4) := by
  unfold B32
  have h : (4294967296 : Nat) = 256 ^ 4 := by decide
  rw [h, ← Nat.pow_mul, ← Nat.pow_add]
  congr 1
  omega
theorem low_digit {n i : Nat} {zs : List Nat} (h : dv B32 zs = n % 256 ^ i) : zs.getD (i / 4) 0 < 256 ^ (i % 4) := by
  have h1 := dv_ge B32 zs (i / 4)
  have h2 : n % 256 ^ i < 256 ^ i := Nat.mod_lt _ (Nat.pow_pos (by decide))
  rw [h] at h1
  have h3 : B32 ^ (i / 4) * zs.getD (i / 4) 0 < B32 ^ (i / 4) * 256 ^ (i % 4) := by rw [← pow_split]; omega
  exact Nat.lt_of_mul_lt_mul_left h3
theorem digit_step {n i b : Nat} {zs : List Nat} (h : dv B32 zs = n % 256 ^ i) (hi : i / 4 < zs.length) (hb : b = n / 256 ^ i % 256) :
    dv B32 (zs.set (i / 4) (zs.getD (i / 4) 0 + b * 256 ^ (i % 4))) = n % 256 ^ (i + 1) := by
  rw [dv_set_add B32 zs _ _ hi, h, mod_next, ← hb]
  have : 256 ^ i * b = B32 ^ (i / 4) * (b * 256 ^ (i % 4)) := by rw [pow_split, Nat.mul_assoc, Nat.mul_comm b]
  omega
theorem small_pow {z b r : Nat} (hr : r < 4) (hz : z < 256 ^ r) (hb : b < 256) : z + b * 256 ^ r < 4294967296 ∧ b * 256 ^ r < 4294967296 := by
  have : r = 0 ∨ r = 1 ∨ r = 2 ∨ r = 3 := by omega
  rcases this with rfl | rfl | rfl | rfl <;> simp at hz ⊢ <;> omega
theorem byte_shl {b r : Nat} : ((b : Int) * 2 ^ (8 * r)) = ((b * 256 ^ r : Nat) : Int) := by
  rw [show (256 : Nat) ^ r = 2 ^ (8 * r) from by rw [Nat.pow_mul]]; simp
theorem byte_or {z b r : Nat} (hr : r < 4) (hz : z < 256 ^ r) (hb : b < 256) : bits BinOp.or IntKind.u32 (z : Int) ((b * 256 ^ r : Nat) : Int) = ((z + b * 256 ^ r : Nat) : Int) := by
  have h := small_pow hr hz hb
  rw [u32_or_nat _ _ (by omega) h.2, Nat.or_comm, nat_join (8 * r) _ _ ?_ ?_, Nat.add_comm]
  · rw [Nat.pow_mul]; exact Nat.mul_mod_left _ _
  · rw [Nat.pow_mul]; exact hz

set_option maxHeartbeats 1000000 in
set_option maxRecDepth 100000 in
theorem digitsof_any (n : Nat) (w : World) (hn : n < Top) : Calls Try.prog 60 #[.string (bs n)] w (Digits w n) := by
  obtain ⟨i0, hi0, hz0, hz1, hz2⟩ := info_parts info_u32
  have hs := bs_small hn
  have HN := Lib.hid hn
  clear hn
  go_enter Try.func60, Try.ntmps60
  go_wp2_with (at_make; go_loud (refine wpList_make_full _ rfl _ _ 78 rfl w.heap.size 80 i0 (.int .u32 0) 1 Try.underlying78 hi0 hz0 hz1 _ _ _ _ (dlen n) rfl rfl (by unfold dlen; omega) (by unfold dlen; omega) (by rw [hz2]; unfold dlen; omega) (by unfold maxLen dlen; omega) (Nat.le_refl _) ?_); intro w0 hown0 hgrow0)
  have hb0 : Below w.heap.size w w0 := (Below.refl _ _).grown hgrow0 (Nat.le_refl _) (fun g hg => by cases hg)
  rw [madeD] at hown0
  have hd0 := Dg.of_own hown0
  clear hown0 hgrow0
  have HDL : Hid (dlen n = ((bs n).size + 3) / 4) := rfl
  go_loopw [14] (fun c wr => ∃ (i : Nat) (zs : List Nat), i ≤ (bs n).size ∧ c = .int .i64 i ∧ zs.length = dlen n ∧ Small zs ∧ Dg wr w.heap.size zs ∧ Hid (dv B32 zs = n % 256 ^ i) ∧ Below w.heap.size w wr) (fun c _ => (bs n).size - (intOf c).toNat)
  case atStart => exact ⟨0, _, Nat.zero_le _, rfl, List.length_replicate, Small.replicate _, hd0, Lib.hid (by simp [dv_replicate, Nat.mod_one]), hb0⟩
  case round =>
    obtain ⟨i, zs, hi, rfl, hzl, hzs, hdz, HE, hbel⟩ := hrel
    by_cases hlt : i < (bs n).size
    · obtain ⟨p, hp⟩ : ∃ p, p + 1 + i = (bs n).size := ⟨(bs n).size - 1 - i, by omega⟩
      have hpe : ((bs n).size : Int) - 1 - (i : Int) = (p : Int) := by omega
      have hps : p < (bs n).size := by omega
      have hil : i / 4 < dlen n := by unfold dlen; omega
      have hb : (bs n)[p].toNat = n / 256 ^ i % 256 := by
        have := cb_get n i (by rw [← bs_size]; exact hlt)
        rw [← this, bs_getElem n p hps]
        congr 2
        rw [← bs_size]; omega
      obtain ⟨b, hbd⟩ : ∃ b, b = n / 256 ^ i % 256 := ⟨_, rfl⟩
      rw [← hbd] at hb
      have hb' : ((bs n)[p].toNat : Int) = (b : Int) := by rw [hb]
      have hb2 : b < 256 := by omega
      have hlow := low_digit HE.out
      have hst := digit_step HE.out (by omega) hbd
      obtain ⟨z, hz⟩ : ∃ z, z = zs.getD (i / 4) 0 := ⟨_, rfl⟩
      rw [← hz] at hlow hst
      have hcz := hdz.cell (i / 4) (by omega)
      rw [← hz] at hcz
      have hfr := hdz.frozen (i / 4)
      have hsm := small_pow (by omega) hlow hb2
      have hor : bits BinOp.or IntKind.u32 (z : Int) ((b : Int) * 2 ^ (8 * (i % 4)) % 4294967296) = ((z + b * 256 ^ (i % 4) : Nat) : Int) := by
        rw [byte_shl, show (((b * 256 ^ (i % 4) : Nat) : Int) % 4294967296) = ((b * 256 ^ (i % 4) : Nat) : Int) from by omega]
        exact byte_or (by omega) hlow hb2
      have HST := Lib.hid hst
      have HOR := Lib.hid hor
      have HSM := Lib.hid hsm
      have HLOW := Lib.hid hlow
      have HP := Lib.hid hp
      clear hst hor hsm hlow hp hz hbd hb
      go_wp2
      go_region
      go_wp2
      go_roundw
      case rel => exact ⟨i + 1, zs.set (i / 4) (z + b * 256 ^ (i % 4)), by omega, by go_num, by simpa using hzl, hzs.set _ _ HSM.out.1, by rw [HOR.out]; exact (hdz.set _ _).drew, HST, (hbel.setCell (Nat.le_refl _) _).drew⟩
      case measure => simp [intOf]; omega
    · have hie : i = (bs n).size := by omega
      have HI := Lib.hid hie
      clear hie
      go_wp2
      go_ret
      exact ⟨zs, by rw [hzl]; rfl, hzl, hzs, hdz, by rw [HE.out, HI.out]; exact Nat.mod_eq_of_lt (by have := cb_lt_pow n; rw [← bs_size] at this; exact this), hbel⟩
end Go.Proofs.Ytehpdpcpdfgnlaa
