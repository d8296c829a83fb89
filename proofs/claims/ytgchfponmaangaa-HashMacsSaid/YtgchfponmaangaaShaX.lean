/-
  The contracts of the reference's Hex and Mac.
-/
import Derived.Test.YtgchfponmaangaaShaU
namespace Go.Proofs.Ytgchfponmaangaa
open Go.RowKit
theorem pair_string (a b : UInt8) (W : World) : (convert 27 9 (.slice (some ⟨W.heap.size, 0, none⟩) 2 2)).run Try.prog (W.alloc (.cells #[.int .u8 (a.toNat : Int), .int .u8 (b.toNat : Int)] 5)).drew = .ok (.string ⟨#[a, b]⟩) (W.alloc (.cells #[.int .u8 (a.toNat : Int), .int .u8 (b.toNat : Int)] 5)).drew := by
  have h : By (W.alloc (.cells #[.int .u8 (a.toNat : Int), .int .u8 (b.toNat : Int)] 5)).drew W.heap.size [a, b] 5 := By.drew (heap_alloc_new _ _)
  exact h.string 2 2 rfl
set_option maxRecDepth 100000 in
set_option maxHeartbeats 1600000 in
theorem rhex_ok (s : ByteArray) (hs : s.size ≤ 274877906944) (w : World) :
    Calls Try.prog 13 #[.string s] w fun e w' => e = .returned (.string ⟨(hexL s.data.toList).toArray⟩) ∧ Below w.heap.size w w' := by
  go_enter Try.func13, Try.ntmps13
  go_wp2_with fail
  go_loopw [4, 5] (fun v4 v5 wr => ∃ (i : Nat) (T : ByteArray), i ≤ s.size ∧ v5 = .int .i64 i ∧ v4 = .string T ∧ Hid (T.data.toList = hexL (s.data.toList.take i)) ∧ Below w.heap.size w wr) (fun _ i _ => s.size - (intOf i).toNat)
  case atStart => exact ⟨0, ⟨#[]⟩, by omega, rfl, rfl, Lib.hid rfl, Below.refl _ _⟩
  case round =>
    obtain ⟨i, T, hi, rfl, rfl, HT, hB⟩ := hrel
    have hTs : T.size ≤ 2 * i := by rw [← size_toList, HT.out, hexL_length, List.length_take]; omega
    by_cases hlt : i < s.size
    · have hx := s[i].toNat_lt
      have d1 : ∀ W, (Instr.index 9 (.string ⟨#[48, 49, 50, 51, 52, 53, 54, 55, 56, 57, 97, 98, 99, 100, 101, 102]⟩) (.int .u8 ((s[i].toNat : Int) / 16))).run Try.prog W = .ok (.int .u8 ((hexd (s[i].toNat / 16)).toNat : Int)) W := fun W => digit_run _ Try.underlying9 (s[i].toNat / 16) (by omega) W
      have d2 : ∀ W, (Instr.index 9 (.string ⟨#[48, 49, 50, 51, 52, 53, 54, 55, 56, 57, 97, 98, 99, 100, 101, 102]⟩) (.int .u8 ((s[i].toNat : Int) % 16))).run Try.prog W = .ok (.int .u8 ((hexd (s[i].toNat % 16)).toNat : Int)) W := fun W => digit_run _ Try.underlying9 (s[i].toNat % 16) (by omega) W
      have q1 : IntKind.u8.wrap ((s[i].toNat : Int) / 16) = (s[i].toNat : Int) / 16 := IntWalk.u8_in _ (by omega)
      have q2 : IntKind.u8.wrap ((s[i].toNat : Int).tmod 16) = (s[i].toNat : Int) % 16 := by rw [Int.tmod_eq_emod_of_nonneg (by omega)]; exact IntWalk.u8_in _ (by omega)
      have q3 : IntKind.u8.wrap ((s[i].toNat : Int).tdiv 16) = (s[i].toNat : Int) / 16 := by rw [Int.tdiv_eq_ediv_of_nonneg (by omega)]; exact IntWalk.u8_in _ (by omega)
      have q4 : IntKind.u8.wrap ((s[i].toNat : Int) % 16) = (s[i].toNat : Int) % 16 := IntWalk.u8_in _ (by omega)
      have hcv := pair_string (hexd (s[i].toNat / 16)) (hexd (s[i].toNat % 16))
      have j1 : ¬ (9223372036854775807 < T.size + 2) := by omega
      have HX := Lib.hid (show hexL (s.data.toList.take (i + 1)) = hexL (s.data.toList.take i) ++ hexb s[i] from hexL_take _ _ (by rw [size_toList]; exact hlt))
      go_wp2_with fail
      have hBd := hB.drew
      go_region
      all_goals
        go_wp2
        go_roundw
        case rel => exact ⟨i + 1, _, by omega, by go_num, rfl, Lib.hid (by rw [append_data, HT.out, HX.out]; rfl), hBd.alloc hBd.size _⟩
        case measure => simp [intOf]; omega
    · obtain rfl : i = s.size := by omega
      have HR := Lib.hid (show T = (⟨(hexL s.data.toList).toArray⟩ : ByteArray) from by
        apply ByteArray.ext
        apply Array.toList_inj.1
        rw [HT.out, List.take_of_length_le (by rw [size_toList]; exact Nat.le_refl _)])
      go_wp2
      go_ret
      exact ⟨ret_str (by rw [HR.out]), hB⟩
theorem rxored54 (s : ByteArray) (hs : s.size ≤ 64) (w : World) : Calls Try.prog 24 #[.string s, .int .u8 54] w fun e w' => e = .returned (.string ⟨(keyb s.data.toList 54).toArray⟩) ∧ Below w.heap.size w w' := xored_ok s 54 hs w
theorem rxored92 (s : ByteArray) (hs : s.size ≤ 64) (w : World) : Calls Try.prog 24 #[.string s, .int .u8 92] w fun e w' => e = .returned (.string ⟨(keyb s.data.toList 92).toArray⟩) ∧ Below w.heap.size w w' := xored_ok s 92 hs w
theorem rsum_bytes (B : List UInt8) (s : ByteArray) (hB : s.data.toList = B) (hs : B.length ≤ 1099511627776) (w : World) :
    Calls Try.prog 11 #[.string s] w fun e w' => e = .returned (.string ⟨(shaL B).toArray⟩) ∧ Below w.heap.size w w' := by
  subst hB
  exact rsum_ok s (by rw [← size_toList]; exact hs) w
set_option maxRecDepth 100000 in
set_option maxHeartbeats 1600000 in
theorem rmac_short (k s : ByteArray) (hk : k.size ≤ 64) (hs : s.size ≤ 274877906944) (w : World) :
    Calls Try.prog 15 #[.string k, .string s] w fun e w' => e = .returned (.string ⟨(macL k.data.toList s.data.toList).toArray⟩) ∧ Below w.heap.size w w' := by
  have hz : k.size ≤ 64 := by omega
  have hkl := keyb_length k.data.toList 54 (by rw [size_toList]; omega)
  have hkl2 := keyb_length k.data.toList 92 (by rw [size_toList]; omega)
  have C1 := Lib.hid (fun W => rxored54 k hz W)
  have C2 := Lib.hid (fun W => rsum_bytes (keyb k.data.toList 54 ++ s.data.toList) (⟨(keyb k.data.toList 54).toArray⟩ ++ s) (append_data _ _) (by rw [List.length_append, hkl, size_toList]; omega) W)
  have C3 := Lib.hid (fun W => rxored92 k hz W)
  have C4 := Lib.hid (fun W => rsum_bytes (keyb k.data.toList 92 ++ shaL (keyb k.data.toList 54 ++ s.data.toList)) (⟨(keyb k.data.toList 92).toArray⟩ ++ ⟨(shaL (keyb k.data.toList 54 ++ s.data.toList)).toArray⟩) (append_data _ _) (by rw [List.length_append, hkl2, shaL_length]; omega) W)
  have HM := Lib.hid (show macL k.data.toList s.data.toList = shaL (keyb k.data.toList 92 ++ shaL (keyb k.data.toList 54 ++ s.data.toList)) from by
    unfold macL
    rw [if_neg (by rw [size_toList]; omega)])
  replace hkl := Nat.le_of_eq hkl
  replace hkl2 := Nat.le_of_eq hkl2
  have hsl := Nat.le_of_eq (shaL_length (keyb k.data.toList 54 ++ s.data.toList))
  clear hz
  go_enter Try.func15, Try.ntmps15
  go_wp2_with fail
  refine (C3.out _).mono ?_
  rintro e w0 ⟨rfl, hb⟩
  have HB := hb
  clear hb
  go_wp2_with fail
  refine (C1.out _).mono ?_
  rintro e w1 ⟨rfl, hb⟩
  replace HB := HB.trans (hb.mono HB.size)
  clear hb
  go_wp2_with fail
  refine (C2.out _).mono ?_
  rintro e w2 ⟨rfl, hb⟩
  replace HB := HB.trans (hb.mono HB.size)
  clear hb
  go_wp2_with fail
  refine (C4.out _).mono ?_
  rintro e w3 ⟨rfl, hb⟩
  replace HB := HB.trans (hb.mono HB.size)
  clear hb
  go_wp2
  go_ret
  exact ⟨ret_str (by rw [HM.out]), HB⟩
set_option maxRecDepth 100000 in
set_option maxHeartbeats 1600000 in
theorem rmac_long (k s : ByteArray) (hk : 64 < k.size) (hk2 : k.size ≤ 274877906944) (hs : s.size ≤ 274877906944) (w : World) :
    Calls Try.prog 15 #[.string k, .string s] w fun e w' => e = .returned (.string ⟨(macL k.data.toList s.data.toList).toArray⟩) ∧ Below w.heap.size w w' := by
  have hz : (⟨(shaL k.data.toList).toArray⟩ : ByteArray).size ≤ 64 := by rw [← size_toList]; show (shaL k.data.toList).length ≤ 64; rw [shaL_length]; omega
  have hkl := keyb_length (shaL k.data.toList) 54 (by rw [shaL_length]; omega)
  have hkl2 := keyb_length (shaL k.data.toList) 92 (by rw [shaL_length]; omega)
  have C0 := Lib.hid (fun W => rsum_ok k (by omega) W)
  have C1 := Lib.hid (fun W => rxored54 (⟨(shaL k.data.toList).toArray⟩ : ByteArray) hz W)
  have C2 := Lib.hid (fun W => rsum_bytes (keyb (shaL k.data.toList) 54 ++ s.data.toList) (⟨(keyb (shaL k.data.toList) 54).toArray⟩ ++ s) (append_data _ _) (by rw [List.length_append, hkl, size_toList]; omega) W)
  have C3 := Lib.hid (fun W => rxored92 (⟨(shaL k.data.toList).toArray⟩ : ByteArray) hz W)
  have C4 := Lib.hid (fun W => rsum_bytes (keyb (shaL k.data.toList) 92 ++ shaL (keyb (shaL k.data.toList) 54 ++ s.data.toList)) (⟨(keyb (shaL k.data.toList) 92).toArray⟩ ++ ⟨(shaL (keyb (shaL k.data.toList) 54 ++ s.data.toList)).toArray⟩) (append_data _ _) (by rw [List.length_append, hkl2, shaL_length]; omega) W)
  have HM := Lib.hid (show macL k.data.toList s.data.toList = shaL (keyb (shaL k.data.toList) 92 ++ shaL (keyb (shaL k.data.toList) 54 ++ s.data.toList)) from by
    unfold macL
    rw [if_pos (by rw [size_toList]; omega)])
  replace hkl := Nat.le_of_eq hkl
  replace hkl2 := Nat.le_of_eq hkl2
  have hsl := Nat.le_of_eq (shaL_length (keyb (shaL k.data.toList) 54 ++ s.data.toList))
  clear hz
  go_enter Try.func15, Try.ntmps15
  go_wp2_with fail
  refine (C0.out _).mono ?_
  rintro e w0 ⟨rfl, hb⟩
  have HB := hb
  clear hb
  go_wp2_with fail
  refine (C3.out _).mono ?_
  rintro e w1 ⟨rfl, hb⟩
  replace HB := HB.trans (hb.mono HB.size)
  clear hb
  go_wp2_with fail
  refine (C1.out _).mono ?_
  rintro e w2 ⟨rfl, hb⟩
  replace HB := HB.trans (hb.mono HB.size)
  clear hb
  go_wp2_with fail
  refine (C2.out _).mono ?_
  rintro e w3 ⟨rfl, hb⟩
  replace HB := HB.trans (hb.mono HB.size)
  clear hb
  go_wp2_with fail
  refine (C4.out _).mono ?_
  rintro e w4 ⟨rfl, hb⟩
  replace HB := HB.trans (hb.mono HB.size)
  clear hb
  go_wp2
  go_ret
  exact ⟨ret_str (by rw [HM.out]), HB⟩
theorem rmac_ok (k s : ByteArray) (hk : k.size ≤ 274877906944) (hs : s.size ≤ 274877906944) (w : World) :
    Calls Try.prog 15 #[.string k, .string s] w fun e w' => e = .returned (.string ⟨(macL k.data.toList s.data.toList).toArray⟩) ∧ Below w.heap.size w w' := by
  rcases Nat.lt_or_ge 64 k.size with h | h
  · exact rmac_long k s h hk hs w
  · exact rmac_short k s h hs w
end Go.Proofs.Ytgchfponmaangaa
