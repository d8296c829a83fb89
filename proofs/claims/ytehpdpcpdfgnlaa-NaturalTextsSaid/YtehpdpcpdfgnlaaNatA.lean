/-
  Contracts of natural's functions that only read: Valid.
-/
import Derived.Test.YtehpdpcpdfgnlaaBase
namespace Go.Proofs.Ytehpdpcpdfgnlaa
open Go.RowKit Num

set_option maxHeartbeats 400000 in
theorem valid_any (s : ByteArray) (w : World) (hs : s.size ≤ 9223372036854775807) :
    Calls Try.prog 53 #[.string s] w fun e w' => e = .returned (.bool (validB s)) ∧ w = w' := by
  have hd : s.toList = s.data.toList := ByteArray.toList_eq s
  by_cases h1 : 128 < s.size
  · have hv : validB s = false := by unfold validB; rw [Bool.and_eq_false_iff]; left; simp; omega
    have Hv := Lib.hid hv; clear hv hd
    go_enter Try.func53, Try.ntmps53
    go_wp2
    go_ret
    rw [Hv.out]; exact ⟨rfl, rfl⟩
  · by_cases h2 : s.size = 0
    · have he : s.data.toList = [] := List.length_eq_zero_iff.1 (by rw [size_toList]; exact h2)
      have hv : validB s = true := by unfold validB; rw [he]; simp; omega
      have ht : s.toList.isEmpty = true := by rw [hd, he]; rfl
      have Hv := Lib.hid hv; clear hv hd he h2
      go_enter Try.func53, Try.ntmps53
      go_wp2
      go_ret
      rw [Hv.out]; exact ⟨rfl, rfl⟩
    · have hp : 0 < s.size := by omega
      have ht : s.toList.isEmpty = false := by
        rw [hd]; cases hc : s.data.toList with
        | nil => have := size_toList s; rw [hc] at this; simp at this; omega
        | cons a l => rfl
      have hh : s.data.toList.head? = some s[0] := by
        rw [List.head?_eq_getElem?, List.getElem?_eq_getElem (by rw [size_toList]; exact hp)]; rfl
      have hv : validB s = (s[0] != 0) := by
        unfold validB; rw [hh, decide_eq_true (by omega)]
        simp [bne]
      have hb : ((s[0].toNat : Int) != 0) = (s[0] != 0) := by
        rw [Bool.eq_iff_iff, bne_iff_ne, bne_iff_ne]
        constructor
        · intro h e; apply h; rw [e]; rfl
        · intro h e; apply h; exact UInt8.toNat_inj.1 (by show s[0].toNat = 0; omega)
      have Hv := Lib.hid hv; have Hb := Lib.hid hb; clear hv hd hh h2 hb
      go_enter Try.func53, Try.ntmps53
      go_wp2
      go_ret
      rw [Hv.out, ← Hb.out]; exact ⟨rfl, rfl⟩
theorem valid_yes {n : Nat} (h : n < Top) (w : World) :
    Calls Try.prog 53 #[.string (bs n)] w fun e w' => e = .returned (.bool true) ∧ w = w' := by
  have := valid_any (bs n) w (by have := bs_small h; omega)
  rw [bs_valid h] at this
  exact this

set_option maxHeartbeats 400000 in
theorem small_yes (n : Nat) (w : World) (hn : n < 18446744073709551616) :
    Calls Try.prog 73 #[.string (bs n)] w fun e w' => e = .returned (.tuple #[.int .u64 n, .bool true]) ∧ w = w' := by
  have hs : (bs n).size ≤ 8 := bs_le.2 (by omega)
  have hT : n < Top := by unfold Top; exact Nat.lt_trans hn (by decide)
  go_enter Try.func73, Try.ntmps73
  go_wp2_with (go_at_call 53; refine (valid_yes hT _).mono ?_; rintro e w' ⟨rfl, rfl⟩)
  go_loop [4, 16] (fun m i => ∃ k : Nat, k ≤ (bs n).size ∧ i = .int .i64 k ∧ m = .int .u64 (hi n k : Nat)) (fun _ i => (bs n).size - (intOf i).toNat)
  case atStart => exact ⟨0, by omega, rfl, by rw [hi_zero]; rfl⟩
  case round =>
    obtain ⟨k, hk, rfl, rfl⟩ := hrel
    by_cases hlt : k < (bs n).size
    · have h1 := hi_succ n k hlt
      have h2 := hi_le n (k + 1)
      go_wp2
      go_round
      case rel => exact ⟨k + 1, by omega, by go_num, val_int (by rw [show ((hi n k : Nat) : Int) * 256 = ((hi n k * 256 : Nat) : Int) from by omega, or_join 8 _ _ (by omega) (byte_lt _) (by omega), ← h1])⟩
      case measure => simp [intOf]; omega
    · have h3 : k = (bs n).size := by omega
      have h4 := hi_all n
      rw [← h3] at h4
      have H4 := Lib.hid h4; clear h4 h3
      go_wp2
      go_ret2
      exact ⟨by rw [H4.out]; rfl, rfl⟩

theorem valid_no {s : ByteArray} (h : validB s = false) (w : World) (hs : s.size ≤ 9223372036854775807) :
    Calls Try.prog 53 #[.string s] w fun e w' => e = .returned (.bool false) ∧ w = w' := by
  have := valid_any s w hs
  rw [h] at this
  exact this

set_option maxHeartbeats 400000 in
theorem small_no (s : ByteArray) (w : World) (hs : s.size ≤ 9223372036854775807) (h : validB s = false ∨ 8 < s.size) :
    Calls Try.prog 73 #[.string s] w fun e w' => e = .returned (.tuple #[.int .u64 0, .bool false]) ∧ w = w' := by
  by_cases hv : validB s = true
  · have h8 : 8 < s.size := by rcases h with h | h; (rw [h] at hv; cases hv); exact h
    have hc := valid_any s w hs
    rw [hv] at hc
    have Hc := Lib.hid hc; clear hc hv h
    go_enter Try.func73, Try.ntmps73
    go_wp2_with (go_at_call 53; refine Hc.out.mono ?_; rintro e w' ⟨rfl, rfl⟩)
    go_ret2
    exact ⟨rfl, rfl⟩
  · have hv : validB s = false := by simpa using hv
    have Hc := Lib.hid (valid_no hv w hs); clear hv h
    go_enter Try.func73, Try.ntmps73
    go_wp2_with (go_at_call 53; refine Hc.out.mono ?_; rintro e w' ⟨rfl, rfl⟩)
    go_ret2
    exact ⟨rfl, rfl⟩

/-- The order of two numbers. -/
def cmpN (a b : Nat) : Int := if a < b then -1 else if b < a then 1 else 0

set_option maxHeartbeats 400000 in
theorem cmp_yes {a b : Nat} (ha : a < Top) (hb : b < Top) (w : World) :
    Calls Try.prog 52 #[.string (bs a), .string (bs b)] w fun e w' => e = .returned (.int .i64 (cmpN a b)) ∧ w = w' := by
  have h1 := bs_small ha
  have h2 := bs_small hb
  have va := fun W => valid_yes ha W
  have vb := fun W => valid_yes hb W
  by_cases he : a = b
  · subst he
    have hq : ((bs a).toList == (bs a).toList) = true := by simp
    have hc : cmpN a a = 0 := by simp [cmpN]
    rw [hc]; clear hc
    go_enter Try.func52, Try.ntmps52
    go_wp2_with (go_at_call 53; refine (valid_yes ha _).mono ?_; rintro e w' ⟨rfl, rfl⟩)
    go_ret
    exact ⟨rfl, rfl⟩
  · have hq : ((bs a).toList == (bs b).toList) = false := by rw [bs_beq]; simpa using he
    rcases Nat.lt_trichotomy (bs a).size (bs b).size with g | g | g
    · have hc : cmpN a b = -1 := by have := bs_lt_of_size g; simp [cmpN]; omega
      have gl : decide ((bs a).size < (bs b).size) = true := by simpa using g
      rw [hc]; clear hc
      go_enter Try.func52, Try.ntmps52
      go_wp2_with (go_at_call 53; (first | (with_reducible refine (va _).mono ?_) | (with_reducible refine (vb _).mono ?_)); rintro e w' ⟨rfl, rfl⟩)
      go_ret
      exact ⟨rfl, rfl⟩
    · have hl := bs_less g
      have gz : (((bs a).size : Int) == ((bs b).size : Int)) = true := by simp [g]
      have gl : decide ((bs a).size < (bs b).size) = false := by simp [g]
      by_cases hlt : a < b
      · have hl' : Op.bytesLess (bs a).toList (bs b).toList = true := by rw [hl]; simpa using hlt
        have hc : cmpN a b = -1 := by simp [cmpN, hlt]
        rw [hc]; clear hc hl g
        go_enter Try.func52, Try.ntmps52
        go_wp2_with (go_at_call 53; (first | (with_reducible refine (va _).mono ?_) | (with_reducible refine (vb _).mono ?_)); rintro e w' ⟨rfl, rfl⟩)
        go_ret
        exact ⟨rfl, rfl⟩
      · have hl' : Op.bytesLess (bs a).toList (bs b).toList = false := by rw [hl]; simpa using hlt
        have hc : cmpN a b = 1 := by simp [cmpN]; omega
        rw [hc]; clear hc hl g
        go_enter Try.func52, Try.ntmps52
        go_wp2_with (go_at_call 53; (first | (with_reducible refine (va _).mono ?_) | (with_reducible refine (vb _).mono ?_)); rintro e w' ⟨rfl, rfl⟩)
        go_ret
        exact ⟨rfl, rfl⟩
    · have hc : cmpN a b = 1 := by have := bs_lt_of_size g; simp [cmpN]; omega
      have gz : (((bs a).size : Int) == ((bs b).size : Int)) = false := by simp; omega
      have gl : decide ((bs a).size < (bs b).size) = false := by simp; omega
      rw [hc]; clear hc
      go_enter Try.func52, Try.ntmps52
      go_wp2_with (go_at_call 53; (first | (with_reducible refine (va _).mono ?_) | (with_reducible refine (vb _).mono ?_)); rintro e w' ⟨rfl, rfl⟩)
      go_ret
      exact ⟨rfl, rfl⟩
end Go.Proofs.Ytehpdpcpdfgnlaa
