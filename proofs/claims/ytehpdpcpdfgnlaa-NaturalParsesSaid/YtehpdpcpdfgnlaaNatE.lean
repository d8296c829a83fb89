/-
  Contracts of natural.Gcd, Bits and power for canonical arguments.
-/
import Derived.Test.YtehpdpcpdfgnlaaNatD
import Derived.Test.YtehpdpcpdfgnlaaNatB
import Derived.Test.YtehpdpcpdfgnlaaBytes
namespace Go.Proofs.Ytehpdpcpdfgnlaa
open Go.RowKit Num

/-- The number of a string value. -/
def strVal (v : Value) : Nat := match v with
  | .string s => bval s.data.toList
  | _ => 0
theorem strVal_bs (n : Nat) : strVal (.string (bs n)) = n := by show bval (bs n).data.toList = n; rw [bs_data, bval_cb]
theorem bs_ne (b : Nat) : (bs b).toList.isEmpty = (b == 0) := bs_isEmpty b

set_option maxHeartbeats 1000000 in
set_option maxRecDepth 100000 in
theorem gcd_ok {a b : Nat} (ha : a < Top) (hb : b < Top) (w : World) :
    Calls Try.prog 57 #[.string (bs a), .string (bs b)] w (Made w (.tuple #[.string (bs (Nat.gcd a b)), .int .i64 0])) := by
  have HA := Lib.hid ha
  have HB := Lib.hid hb
  clear ha hb
  go_enter Try.func57, Try.ntmps57
  go_wp2_with fail
  refine (valid_yes HA.out _).mono ?_
  rintro e w' ⟨rfl, rfl⟩
  go_wp2_with fail
  refine (valid_yes HB.out _).mono ?_
  rintro e w' ⟨rfl, rfl⟩
  go_wp2
  go_loopw [0, 1] (fun u v wr => ∃ x y : Nat, u = .string (bs x) ∧ v = .string (bs y) ∧ Hid (x < Top) ∧ Hid (y < Top) ∧ Hid (Nat.gcd x y = Nat.gcd a b) ∧ Below w.heap.size w wr) (fun _ v _ => strVal v)
  case atStart => exact ⟨a, b, rfl, rfl, HA, HB, Lib.hid rfl, Below.refl _ _⟩
  case round =>
    obtain ⟨x, y, rfl, rfl, HX, HY, HG, hbel⟩ := hrel
    by_cases h0 : y = 0
    · have he : (bs y).toList.isEmpty = true := by rw [bs_isEmpty]; simpa using h0
      have hxg : x = Nat.gcd a b := by rw [← HG.out, h0, Nat.gcd_zero_right]
      have HXG := Lib.hid hxg
      clear h0 hxg
      go_wp2
      go_ret2
      exact ⟨by rw [← HXG.out]; rfl, hbel⟩
    · have he : (bs y).toList.isEmpty = false := by rw [bs_isEmpty]; simpa using h0
      go_wp2_with fail
      refine (divmod_ok HX.out HY.out h0 _).mono ?_
      rintro e w1 ⟨rfl, hb1⟩
      have HMS := Lib.hid (show strVal (.string (bs (x % y))) < strVal (.string (bs y)) by rw [strVal_bs, strVal_bs]; exact Nat.mod_lt _ (Nat.pos_of_ne_zero h0))
      go_wp2
      go_roundw
      case rel => exact ⟨y, x % y, rfl, rfl, HY, Lib.hid (Nat.lt_of_le_of_lt (Nat.mod_le _ _) HX.out), Lib.hid (by rw [← HG.out, Nat.gcd_comm x y, Nat.gcd_rec y x, Nat.gcd_comm]), hbel.trans (hb1.mono hbel.size)⟩
      case measure => exact HMS.out

/-- How many binary digits a number has. -/
def nb (n : Nat) : Nat := if n = 0 then 0 else Nat.log2 n + 1
theorem nb_zero : nb 0 = 0 := by simp [nb]
theorem nb_of {n k : Nat} (h1 : 2 ^ k ≤ n) (h2 : n < 2 ^ (k + 1)) : nb n = k + 1 := by
  have h0 : n ≠ 0 := by have := Nat.pow_pos (a := 2) (n := k) (by decide); omega
  unfold nb
  rw [if_neg h0, (Nat.log2_eq_iff h0).2 ⟨h1, h2⟩]
theorem nb_bounds {n : Nat} (h0 : n ≠ 0) : 2 ^ (nb n - 1) ≤ n ∧ n < 2 ^ nb n ∧ 0 < nb n := by
  unfold nb
  rw [if_neg h0, Nat.add_sub_cancel]
  have := (Nat.log2_eq_iff (k := Nat.log2 n) h0).1 rfl
  exact ⟨this.1, this.2, by omega⟩
theorem nb_bytes {n : Nat} (h0 : n ≠ 0) (hp : 0 < (bs n).size) : nb n = 8 * ((bs n).size - 1) + Lib.bitLen ((bs n)[0]).toNat := by
  have hc : (cb n).length = (bs n).size := (bs_size n).symm
  obtain ⟨b, l, hbl⟩ : ∃ b l, cb n = b :: l := by
    cases h : cb n with
    | nil => exact absurd (cb_eq_nil.1 h) h0
    | cons b l => exact ⟨b, l, rfl⟩
  have hb0 : (bs n)[0] = b := by rw [bs_getElem n 0 hp]; simp [hbl]
  have hv := bval_cb n
  rw [hbl, bval_cons] at hv
  have hl := bval_lt l
  have hb : b.toNat ≠ 0 := by
    intro e
    have := can_cb n
    rw [hbl] at this
    apply this
    simp
    exact UInt8.toNat_inj.1 (by rw [e]; rfl)
  have hbt := byte_lt b
  obtain ⟨h1, h2, h3⟩ := bitLen_pow 8 b.toNat (by omega) hbt hb
  rw [hb0]
  have hll : l.length = (bs n).size - 1 := by rw [← hc, hbl]; simp
  rw [hll] at hv hl
  obtain ⟨m, hm⟩ : ∃ m, Lib.bitLen b.toNat = m + 1 := ⟨Lib.bitLen b.toNat - 1, by omega⟩
  rw [hm, Nat.add_sub_cancel] at h1
  rw [hm] at h2 ⊢
  generalize (bs n).size - 1 = k at *
  have e8 : (256 : Nat) ^ k = 2 ^ (8 * k) := by rw [Nat.pow_mul]
  rw [e8] at hv hl
  rw [← Nat.add_assoc]
  apply nb_of
  · rw [Nat.pow_add, Nat.mul_comm]
    have : 2 ^ m * 2 ^ (8 * k) ≤ b.toNat * 2 ^ (8 * k) := Nat.mul_le_mul_right _ h1
    omega
  · rw [Nat.add_assoc, Nat.pow_add, Nat.mul_comm]
    have : (b.toNat + 1) * 2 ^ (8 * k) ≤ 2 ^ (m + 1) * 2 ^ (8 * k) := Nat.mul_le_mul_right _ h2
    rw [Nat.add_mul] at this
    omega

set_option maxHeartbeats 400000 in
theorem bits_ok {a : Nat} (ha : a < Top) (w : World) :
    Calls Try.prog 92 #[.string (bs a)] w (Same w (.int .i64 (nb a : Nat))) := by
  have hs := bs_small ha
  have HA := Lib.hid ha
  by_cases h0 : a = 0
  · have he : (bs a).toList.isEmpty = true := by rw [bs_isEmpty]; simpa using h0
    have hn : nb a = 0 := by rw [h0, nb_zero]
    have HN := Lib.hid hn
    clear h0 hn ha
    go_enter Try.func92, Try.ntmps92
    go_wp2
    go_ret
    exact ⟨by rw [HN.out]; rfl, rfl⟩
  · have he : (bs a).toList.isEmpty = false := by rw [bs_isEmpty]; simpa using h0
    have hp := bs_pos h0
    have HN := Lib.hid (nb_bytes h0 hp)
    have hbl : Lib.bitLen ((bs a)[0]).toNat ≤ 8 := Lib.bitLen_le _ 8 (by omega) (byte_lt _)
    obtain ⟨b, hb⟩ : ∃ b : Nat, (bs a)[0].toNat = b := ⟨_, rfl⟩
    have hbb : b < 256 := by rw [← hb]; exact byte_lt _
    rw [hb] at hbl HN
    have hbi : ((bs a)[0].toNat : Int) = (b : Int) := by rw [hb]
    clear h0 ha hb
    go_enter Try.func92, Try.ntmps92
    go_wp2_with (first | (go_at_call 53; refine (valid_yes HA.out _).mono ?_; rintro e w' ⟨rfl, rfl⟩) | (go_at_call 107; refine (len8_any (b : Int) (by omega) (by omega) _).mono ?_; rintro e w' ⟨rfl, rfl⟩))
    go_ret
    exact ⟨ret_int (by rw [HN.out]; omega), rfl⟩

theorem pow_byte (k : Nat) : cb (2 ^ k) = UInt8.ofNat (2 ^ (k % 8)) :: List.replicate (k / 8) 0 := by
  have h : 2 ^ (k % 8) < 256 := by
    have := Nat.pow_le_pow_right (n := 2) (by decide) (show k % 8 ≤ 7 by omega)
    omega
  have hv : bval (UInt8.ofNat (2 ^ (k % 8)) :: List.replicate (k / 8) 0) = 2 ^ k := by
    rw [bval_cons, UInt8.toNat_ofNat', List.length_replicate]
    have hz : ∀ m, bval (List.replicate m 0) = 0 := by
      intro m
      induction m with
      | zero => rfl
      | succ m ih => rw [List.replicate_succ, bval_cons, ih]; simp
    rw [hz, Nat.mod_eq_of_lt (by simpa using h), show (256 : Nat) = 2 ^ 8 from by decide, ← Nat.pow_mul, ← Nat.pow_add, Nat.add_zero]
    congr 1
    omega
  rw [← hv, cb_bval]
  unfold Num.Can
  simp only [List.head?_cons, ne_eq, Option.some.injEq]
  intro e
  have h2 : (UInt8.ofNat (2 ^ (k % 8))).toNat = 0 := by rw [e]; rfl
  rw [UInt8.toNat_ofNat', Nat.mod_eq_of_lt (by simpa using h)] at h2
  have := Nat.pow_pos (a := 2) (n := k % 8) (by decide)
  omega
set_option maxHeartbeats 400000 in
set_option maxRecDepth 100000 in
theorem power_any (k : Nat) (hk : k ≤ 100000) (w : World) :
    Calls Try.prog 91 #[.int .i64 k] w (Made w (.string (bs (2 ^ k)))) := by
  obtain ⟨i0, hi0, hz0, hz1, hz2⟩ := info_parts info_u8
  have hlt : 2 ^ (k % 8) < 256 := by
    have := Nat.pow_le_pow_right (n := 2) (by decide) (show k % 8 ≤ 7 by omega)
    omega
  obtain ⟨b, hb⟩ : ∃ b, b = UInt8.ofNat (2 ^ (k % 8)) := ⟨_, rfl⟩
  have hbt : (2 : Int) ^ (k % 8) % 256 = (b.toNat : Int) := by
    rw [hb, UInt8.toNat_ofNat', show (2 : Int) ^ (k % 8) = ((2 ^ (k % 8) : Nat) : Int) from by simp]
    omega
  have hfin : (⟨(((List.replicate (k / 8 + 1) 0).set 0 b).drop 0).toArray⟩ : ByteArray) = bs (2 ^ k) := by
    unfold bs
    rw [pow_byte, hb, List.replicate_succ]
    rfl
  have HF := Lib.hid hfin
  clear hb hfin hlt
  go_enter Try.func91, Try.ntmps91
  go_wp2_with (at_make; refine wpList_make_full _ rfl _ _ 77 rfl w.heap.size 5 i0 (.int .u8 0) 1 Try.underlying77 hi0 hz0 hz1 _ _ _ _ (k / 8 + 1) rfl rfl (by omega) (by omega) (by rw [hz2]; omega) (by unfold maxLen; omega) (Nat.le_refl _) ?_; intro w0 hown0 hgrow0; rw [madeB] at hown0; have hB := Bt.of_own hown0; have hc0 := hB.cell 0 (by simp); have hf0 := hB.frozen 0; have hcv := (hB.set 0 b).string (P := Try.prog) (src := 77) (dst := 22) 0 (k / 8 + 1) (k / 8 + 1) (by simp) Try.underlying77 Try.underlying5 Try.underlying22; clear hown0 hB)
  go_ret
  exact ⟨ret_str HF.out, ((Below.refl _ _).grown hgrow0 (Nat.le_refl _) (fun g hg => by cases hg)).setCell (Nat.le_refl _) _⟩
end Go.Proofs.Ytehpdpcpdfgnlaa
