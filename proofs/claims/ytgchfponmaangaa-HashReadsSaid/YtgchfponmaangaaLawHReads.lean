/-
  The contract of digit; dominolaw05.HashReads returns true: the walk.
-/
import Derived.Test.YtgchfponmaangaaShaJ
namespace Go.Proofs.Ytgchfponmaangaa
open Go.RowKit
theorem hexd_low {n : Nat} (h : n < 10) : ((hexd n).toNat : Int) = 48 + n := by
  unfold hexd; rw [if_pos h, UInt8.toNat_ofNat']; omega
theorem hexd_high {n : Nat} (h : 10 ≤ n) (h2 : n < 16) : ((hexd n).toNat : Int) = 87 + n := by
  unfold hexd; rw [if_neg (by omega), UInt8.toNat_ofNat']; omega
theorem digit_low (c : Int) (h1 : 48 ≤ c) (h2 : c ≤ 57) (w : World) : Calls Try.prog 16 #[.int .u8 c] w fun e w' => e = .returned (.int .u8 (c - 48)) ∧ w' = w := by
  go_enter Try.func16, Try.ntmps16
  go_wp2
  go_ret
  exact ⟨rfl, rfl⟩
theorem digit_high (c : Int) (h1 : 97 ≤ c) (h2 : c ≤ 102) (w : World) : Calls Try.prog 16 #[.int .u8 c] w fun e w' => e = .returned (.int .u8 (c - 97 + 10)) ∧ w' = w := by
  go_enter Try.func16, Try.ntmps16
  go_wp2
  go_ret
  exact ⟨rfl, rfl⟩
theorem digit_of {n : Nat} (h : n < 16) (w : World) : Calls Try.prog 16 #[.int .u8 ((hexd n).toNat : Int)] w fun e w' => e = .returned (.int .u8 (n : Int)) ∧ w' = w := by
  rcases Nat.lt_or_ge n 10 with h1 | h1
  · have := digit_low (48 + n) (by omega) (by omega) w
    rw [hexd_low h1]
    rwa [show (48 + (n : Int) - 48) = n from by omega] at this
  · have := digit_high (87 + n) (by omega) (by omega) w
    rw [hexd_high h1 h]
    rwa [show (87 + (n : Int) - 97 + 10) = n from by omega] at this
theorem index_run (t : TypeId) (ht : Try.prog.underlying t = some .string) (l : List UInt8) (k : Nat) (hk : k < l.length) (z : Int) (hz : z = k) (W : World) : (Instr.index t (.string ⟨l.toArray⟩) (.int .i64 z)).run Try.prog W = .ok (.int .u8 ((l.getD k 0).toNat : Int)) W := by
  subst hz
  rw [run_index_string (P := Try.prog) (t := t) (h := ht)]
  have hs : (⟨l.toArray⟩ : ByteArray).size = l.length := (size_toList _).symm
  rw [dif_pos (by rw [hs]; omega)]
  rw [at_byte ⟨l.toArray⟩ _ (by rw [hs]; simpa using hk)]
  simp
theorem hexL_getD (L : List UInt8) (i : Nat) (h : i < L.length) : (hexL L).getD (2 * i) 0 = hexd ((L.getD i 0).toNat / 16) ∧ (hexL L).getD (2 * i + 1) 0 = hexd ((L.getD i 0).toNat % 16) := by
  induction L generalizing i with
  | nil => simp at h
  | cons x L ih =>
    have e : hexL (x :: L) = hexd (x.toNat / 16) :: hexd (x.toNat % 16) :: hexL L := rfl
    rw [e]
    cases i with
    | zero => exact ⟨rfl, rfl⟩
    | succ i =>
      have := ih i (by simpa using h)
      rw [show 2 * (i + 1) = 2 * i + 1 + 1 from by omega, List.getD_cons_succ, List.getD_cons_succ, List.getD_cons_succ, List.getD_cons_succ, List.getD_cons_succ]
      exact this
theorem sha_size (L : List UInt8) : (⟨(shaL L).toArray⟩ : ByteArray).size = 32 := by rw [← size_toList]; exact shaL_length L
theorem macL_length (K L : List UInt8) : (macL K L).length = 32 := by unfold macL; exact shaL_length _
theorem mac_size (K L : List UInt8) : (⟨(macL K L).toArray⟩ : ByteArray).size = 32 := by rw [← size_toList]; exact macL_length K L
set_option maxRecDepth 100000 in
set_option maxHeartbeats 1600000 in
theorem law_hreads_big (s : ByteArray) (hs : s.size ≤ 9223372036854775807) (h : 1000 < s.size) (w : World) : Calls Try.prog 8 #[.string s] w fun e w' => e = .returned (.bool true) ∧ Below w.heap.size w w' := by
  have CA := Lib.hid (fun W => awake_ok W)
  go_enter Try.func8, Try.ntmps8
  go_wp2_with fail
  refine (CA.out _).mono ?_
  rintro e w1 ⟨rfl, hb⟩
  go_wp2
  go_ret
  exact ⟨rfl, hb⟩
set_option maxRecDepth 100000 in
set_option maxHeartbeats 1600000 in
theorem law_hreads_small (s : ByteArray) (h : s.size ≤ 1000) (w : World) : Calls Try.prog 8 #[.string s] w fun e w' => e = .returned (.bool true) ∧ Below w.heap.size w w' := by
  have CA := Lib.hid (fun W => awake_ok W)
  have CH := Lib.hid (fun W => hex_ok s (by omega) W)
  have CS := Lib.hid (fun W => sum_ok s (by omega) W)
  have CM := Lib.hid (fun W => mac_ok s s (by omega) (by omega) W)
  have hl : (hexL s.data.toList).length = 2 * s.size := by rw [hexL_length, size_toList]
  obtain ⟨H, hH⟩ : ∃ H, H = hexL s.data.toList := ⟨_, rfl⟩
  rw [← hH] at CH hl
  have hz : (⟨H.toArray⟩ : ByteArray).size = 2 * s.size := by rw [← size_toList]; exact hl
  have HH := Lib.hid hH
  have HL := Lib.hid hl
  clear hH hl
  go_enter Try.func8, Try.ntmps8
  go_wp2_with fail
  refine (CH.out _).mono ?_
  rintro e w1 ⟨rfl, hb⟩
  go_wp2_with fail
  clear hz
  go_loopw [4] (fun v4 wr => ∃ i : Nat, i ≤ s.size ∧ v4 = .int .i64 i ∧ Below w.heap.size w wr) (fun i _ => s.size - (intOf i).toNat)
  case atStart => exact ⟨0, by omega, rfl, hb⟩
  case round =>
    clear hb
    obtain ⟨i, hi, rfl, hB⟩ := hrel
    by_cases hlt : i < s.size
    · obtain ⟨n1, n2, b1, b2, hbb, g1, g2⟩ : ∃ n1 n2 : Nat, n1 < 16 ∧ n2 < 16 ∧ Hid (16 * n1 + n2 = s[i].toNat) ∧ H.getD (2 * i) 0 = hexd n1 ∧ H.getD (2 * i + 1) 0 = hexd n2 := by
        have := hexL_getD s.data.toList i (by rw [size_toList]; exact hlt)
        rw [← HH.out, ← at_byte s i hlt] at this
        have hx := s[i].toNat_lt
        exact ⟨s[i].toNat / 16, s[i].toNat % 16, by omega, by omega, Lib.hid (by omega), this.1, this.2⟩
      have d1 : ∀ W, (Instr.index 9 (.string ⟨H.toArray⟩) (.int .i64 (2 * (i : Int)))).run Try.prog W = .ok (.int .u8 ((hexd n1).toNat : Int)) W := by
        intro W; rw [← g1]; exact index_run _ Try.underlying9 H (2 * i) (by have := HL.out; omega) _ (by omega) W
      have d2 : ∀ W, (Instr.index 9 (.string ⟨H.toArray⟩) (.int .i64 (2 * (i : Int) + 1))).run Try.prog W = .ok (.int .u8 ((hexd n2).toNat : Int)) W := by
        intro W; rw [← g2]; exact index_run _ Try.underlying9 H (2 * i + 1) (by have := HL.out; omega) _ (by omega) W
      have q1 : IntKind.i64.wrap (2 * (i : Int)) = 2 * (i : Int) := IntWalk.i64_in _ (by omega)
      have q2 : IntKind.i64.wrap (2 * (i : Int) + 1) = 2 * (i : Int) + 1 := IntWalk.i64_in _ (by omega)
      have t1 : (16 * (n1 : Int) + n2 != (s[i].toNat : Int)) = false := by
        have : 16 * (n1 : Int) + n2 = (s[i].toNat : Int) := by have := hbb.out; omega
        simp [this]
      clear g1 g2 hbb
      go_wp2_with fail
      go_quiet ((go_at_call 16; exact Calls.quiet_of_same (digit_of (by assumption) _)))
      have hBd := below_draws hB nq
      clear q1 q2 d1 d2
      go_wp2
      go_roundw
      case rel => exact ⟨i + 1, by omega, by go_num, hBd⟩
      case measure => simp [intOf]; omega
    · obtain rfl : i = s.size := by omega
      have e1 := shaL_length s.data.toList
      have e2 := macL_length s.data.toList s.data.toList
      go_wp2_with fail
      refine (CS.out _).mono ?_
      rintro e w2 ⟨rfl, hb⟩
      replace hB := hB.trans (hb.mono hB.size)
      clear hb
      go_wp2_with fail
      refine (CM.out _).mono ?_
      rintro e w3 ⟨rfl, hb⟩
      replace hB := hB.trans (hb.mono hB.size)
      clear hb
      go_wp2_with fail
      refine (CA.out _).mono ?_
      rintro e w4 ⟨rfl, hb⟩
      replace hB := hB.trans (hb.mono hB.size)
      clear hb
      go_wp2
      go_ret
      exact ⟨rfl, hB⟩
theorem law_hreads (s : ByteArray) (w : World) (hs : s.size ≤ 9223372036854775807) : Calls Try.prog 8 #[.string s] w fun e w' => e = .returned (.bool true) ∧ Below w.heap.size w w' := by
  rcases Nat.lt_or_ge 1000 s.size with h | h
  · exact law_hreads_big s hs h w
  · exact law_hreads_small s h w
end Go.Proofs.Ytgchfponmaangaa
