/-
  Contracts of the reference's functions that read numbers: Valid, trim, Of, U64, Small, Order, Cmp, at.
-/
import Derived.Test.YtehpdpcpdfgnlaaNatF
import Derived.Test.YtehpdpcpdfgnlaaBytes
namespace Go.Proofs.Ytehpdpcpdfgnlaa
open Go.RowKit Num

theorem top_big' {n : Nat} (h : n < 18446744073709551616) : n < Top := by unfold Top; exact Nat.lt_trans h (by decide)
set_option maxHeartbeats 400000 in
theorem rvalid_any (s : ByteArray) (w : World) (hs : s.size ≤ 9223372036854775807) :
    Calls Try.prog 64 #[.string s] w fun e w' => e = .returned (.bool (validB s)) ∧ w = w' := by
  have hd : s.toList = s.data.toList := ByteArray.toList_eq s
  by_cases h1 : 128 < s.size
  · have hv : validB s = false := by unfold validB; rw [Bool.and_eq_false_iff]; left; simp; omega
    have Hv := Lib.hid hv; clear hv hd
    go_enter Try.func64, Try.ntmps64
    go_wp2
    go_ret
    rw [Hv.out]; exact ⟨rfl, rfl⟩
  · by_cases h2 : s.size = 0
    · have he : s.data.toList = [] := List.length_eq_zero_iff.1 (by rw [size_toList]; exact h2)
      have hv : validB s = true := by unfold validB; rw [he]; simp; omega
      have ht : s.toList.isEmpty = true := by rw [hd, he]; rfl
      have Hv := Lib.hid hv; clear hv hd he h2
      go_enter Try.func64, Try.ntmps64
      go_wp2
      go_ret
      rw [Hv.out]; exact ⟨rfl, rfl⟩
    · have hp : 0 < s.size := by omega
      have ht : s.toList.isEmpty = false := by
        rw [hd]; cases hc : s.data.toList with
        | nil => have := size_toList s; rw [hc] at this; simp at this; omega
        | cons a l => rfl
      have hh : s.data.toList.head? = some s[0] := by
        rw [List.head?_eq_getElem?, List.getElem?_eq_getElem (by rw [size_toList]; exact hp)]; rfl
      have hv : validB s = (s[0] != 0) := by
        unfold validB; rw [hh, decide_eq_true (by omega)]
        simp [bne]
      have hb : ((s[0].toNat : Int) != 0) = (s[0] != 0) := by
        rw [Bool.eq_iff_iff, bne_iff_ne, bne_iff_ne]
        constructor
        · intro h e; apply h; rw [e]; rfl
        · intro h e; apply h; exact UInt8.toNat_inj.1 (by show s[0].toNat = 0; omega)
      have Hv := Lib.hid hv; have Hb := Lib.hid hb; clear hv hd hh h2 hb
      go_enter Try.func64, Try.ntmps64
      go_wp2
      go_ret
      rw [Hv.out, ← Hb.out]; exact ⟨rfl, rfl⟩
theorem rvalid_yes {n : Nat} (h : n < Top) (w : World) :
    Calls Try.prog 64 #[.string (bs n)] w fun e w' => e = .returned (.bool true) ∧ w = w' := by
  have := rvalid_any (bs n) w (by have := bs_small h; omega)
  rw [bs_valid h] at this
  exact this

theorem rvalid_no {s : ByteArray} (h : validB s = false) (w : World) (hs : s.size ≤ 9223372036854775807) :
    Calls Try.prog 64 #[.string s] w fun e w' => e = .returned (.bool false) ∧ w = w' := by
  have := rvalid_any s w hs
  rw [h] at this
  exact this


set_option maxHeartbeats 400000 in
theorem ru64_any (n : Nat) (w : World) (hn : n < 18446744073709551616) :
    Calls Try.prog 66 #[.string (bs n)] w fun e w' => e = .returned (.int .u64 n) ∧ w = w' := by
  have hs : (bs n).size ≤ 8 := bs_le.2 (by omega)
  go_enter Try.func66, Try.ntmps66
  go_wp2
  go_loop [3, 4] (fun m i => ∃ k : Nat, k ≤ (bs n).size ∧ i = .int .i64 k ∧ m = .int .u64 (hi n k : Nat)) (fun _ i => (bs n).size - (intOf i).toNat)
  case atStart => exact ⟨0, by omega, rfl, by rw [hi_zero]; rfl⟩
  case round =>
    obtain ⟨k, hk, rfl, rfl⟩ := hrel
    by_cases hlt : k < (bs n).size
    · have h1 := hi_succ n k hlt
      have h2 := hi_le n (k + 1)
      go_wp2
      go_round
      case rel => exact ⟨k + 1, by omega, by go_num, val_int (by omega)⟩
      case measure => simp [intOf]; omega
    · have h3 : k = (bs n).size := by omega
      have h4 := hi_all n
      rw [← h3] at h4
      have H4 := Lib.hid h4; clear h4 h3
      go_wp2
      go_ret
      exact ⟨by rw [H4.out]; rfl, rfl⟩

set_option maxHeartbeats 400000 in
theorem rsmall_yes (n : Nat) (w : World) (hn : n < 18446744073709551616) :
    Calls Try.prog 74 #[.string (bs n)] w fun e w' => e = .returned (.tuple #[.int .u64 n, .bool true]) ∧ w = w' := by
  have hs : (bs n).size ≤ 8 := bs_le.2 (by omega)
  have hT := top_big' hn
  go_enter Try.func74, Try.ntmps74
  go_wp2_with (first | (go_at_call 64; refine (rvalid_yes hT _).mono ?_; rintro e w' ⟨rfl, rfl⟩) | (go_at_call 66; refine (ru64_any n _ hn).mono ?_; rintro e w' ⟨rfl, rfl⟩))
  go_ret2
  exact ⟨rfl, rfl⟩

set_option maxHeartbeats 400000 in
theorem rsmall_no (s : ByteArray) (w : World) (hs : s.size ≤ 9223372036854775807) (h : validB s = false ∨ 8 < s.size) :
    Calls Try.prog 74 #[.string s] w fun e w' => e = .returned (.tuple #[.int .u64 0, .bool false]) ∧ w = w' := by
  by_cases hv : validB s = true
  · have h8 : 8 < s.size := by rcases h with h | h; (rw [h] at hv; cases hv); exact h
    have hc := rvalid_any s w hs
    rw [hv] at hc
    have Hc := Lib.hid hc; clear hc hv h
    go_enter Try.func74, Try.ntmps74
    go_wp2_with (go_at_call 64; refine Hc.out.mono ?_; rintro e w' ⟨rfl, rfl⟩)
    go_ret2
    exact ⟨rfl, rfl⟩
  · have hv : validB s = false := by simpa using hv
    have Hc := Lib.hid (rvalid_no hv w hs); clear hv h
    go_enter Try.func74, Try.ntmps74
    go_wp2_with (go_at_call 64; refine Hc.out.mono ?_; rintro e w' ⟨rfl, rfl⟩)
    go_ret2
    exact ⟨rfl, rfl⟩

/-- The byte with the weight 256^i of a number. -/
def byteN (a i : Nat) : Nat := a / 256 ^ i % 256
theorem byteN_far {a i : Nat} (h : (bs a).size ≤ i) : byteN a i = 0 := by
  unfold byteN
  have h1 := cb_lt_pow a
  rw [← bs_size] at h1
  have h2 : 256 ^ (bs a).size ≤ 256 ^ i := Nat.pow_le_pow_right (by decide) h
  rw [Nat.div_eq_of_lt (by omega)]
theorem byteN_get {a i p : Nat} (h : p + 1 + i = (bs a).size) (hp : p < (bs a).size) : (bs a)[p].toNat = byteN a i := by
  have := cb_get a i (by rw [← bs_size]; omega)
  unfold byteN
  rw [← this, bs_getElem a p hp]
  congr 2
  rw [← bs_size]; omega

set_option maxHeartbeats 400000 in
theorem at_any (a i : Nat) (w : World) (hs : (bs a).size ≤ 100000) (hi : i ≤ 100000) :
    Calls Try.prog 99 #[.string (bs a), .int .i64 i] w (Same w (.int .i64 (byteN a i : Nat))) := by
  by_cases hlt : i < (bs a).size
  · obtain ⟨p, hp⟩ : ∃ p, p + 1 + i = (bs a).size := ⟨(bs a).size - 1 - i, by omega⟩
    have hpe : ((bs a).size : Int) - 1 - (i : Int) = (p : Int) := by omega
    have hps : p < (bs a).size := by omega
    have hb := byteN_get hp hps
    have hb' : ((bs a)[p].toNat : Int) = (byteN a i : Int) := by rw [hb]
    have hbl : byteN a i < 256 := Nat.mod_lt _ (by decide)
    clear hb hp
    go_enter Try.func99, Try.ntmps99
    go_wp2
    go_ret
    exact ⟨rfl, rfl⟩
  · have HB := Lib.hid (byteN_far (a := a) (i := i) (by omega))
    go_enter Try.func99, Try.ntmps99
    go_wp2
    go_ret
    exact ⟨by rw [HB.out]; rfl, rfl⟩
end Go.Proofs.Ytehpdpcpdfgnlaa
