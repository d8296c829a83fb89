/-
  The law of dominolaw04.PrimeMersenne.
-/
import Derived.Test.YtnnohjabneepiaaPriP
import Derived.Test.YtnnohjabneepiaaMers
namespace Go.Proofs.Ytnnohjabneepiaa
open Go.RowKit Num QR

theorem bs_ff (u : Nat) : bs (256 * u + 255) = bs u ++ (⟨#[255]⟩ : ByteArray) := by
  rw [bs_split (show 256 * u + 255 ≠ 0 by omega), show (256 * u + 255) / 256 = u from by omega]
  congr 3
  have h : UInt8.ofNat (256 * u + 255) = 255 := by
    apply UInt8.toNat_inj.1
    rw [UInt8.toNat_ofNat']
    show (256 * u + 255) % 256 = 255
    omega
  rw [h]
/-- The number that is built from the most significant byte on. -/
def mersB (r j : Nat) : Nat := 2 ^ (r + 8 * j) - 1
theorem mersB_next (r j : Nat) : bs (mersB r (j + 1)) = bs (mersB r j) ++ (⟨#[255]⟩ : ByteArray) := by
  rw [← bs_ff]
  congr 1
  unfold mersB
  have h : 2 ^ (r + 8 * (j + 1)) = 256 * 2 ^ (r + 8 * j) := by rw [show r + 8 * (j + 1) = 8 + (r + 8 * j) from by omega, Nat.pow_add]
  have h2 : 0 < 2 ^ (r + 8 * j) := Nat.pow_pos (by decide)
  rw [h]
  omega
theorem mersB_size {r j : Nat} (h : r + 8 * j ≤ 127) : mersB r j < Top := by
  unfold mersB
  have h1 := Nat.pow_le_pow_right (show 0 < 2 by decide) h
  have h2 : 2 ^ 127 < Top := by unfold Top; decide +kernel
  omega
set_option maxHeartbeats 2000000 in
set_option maxRecDepth 100000 in
theorem pmer_skip (s : ByteArray) (n : Int) (w : World) (hs : s.size ≤ 9223372036854775807) (h : 40 < s.size ∨ (s.size ≤ 40 ∧ validB s = false)) :
    Calls Try.prog 6 #[.int .u8 n, .string s] w (Made w (.bool true)) := by
  have HW := Lib.hid awake4
  have HF := Lib.hid (fun W => formed_any s W hs)
  rcases h with h | ⟨h, hv⟩
  · go_enter Try.func6, Try.ntmps6
    go_wp2_with fail
    refine (HW.out _).mono ?_
    rintro e w3 ⟨rfl, hb⟩
    go_wp2
    go_ret
    exact ⟨rfl, hb⟩
  · rw [hv] at HF
    go_enter Try.func6, Try.ntmps6
    go_wp2_with fail
    refine (HF.out _).mono ?_
    rintro e w2 ⟨rfl, rfl⟩
    go_wp2_with fail
    refine (HW.out _).mono ?_
    rintro e w3 ⟨rfl, hb⟩
    go_wp2
    go_ret
    exact ⟨rfl, hb⟩
set_option maxHeartbeats 2000000 in
set_option maxRecDepth 100000 in
theorem pmer_core1 (s : ByteArray) (n a : Nat) (j k m : Nat) (w : World) (h40 : s.size ≤ 40) (hn : n < 256) (hj : n % 12 = j) (hc : (#[.int .i64 2, .int .i64 3, .int .i64 5, .int .i64 7, .int .i64 13, .int .i64 17, .int .i64 19, .int .i64 31, .int .i64 61, .int .i64 89, .int .i64 107, .int .i64 127] : Array Value)[j]? = some (.int .i64 (k : Int))) (hk : k = 1 + 8 * m) (h127 : k ≤ 127)
    (hsv : s = bs a) (ha : a < Top) (hP : ∀ W, Calls Try.prog 16 #[.string (bs (mersB 1 m)), .string s] W (Made W (.tuple #[.bool true, .int .i64 0]))) :
    Calls Try.prog 6 #[.int .u8 (n : Int), .string s] w (Made w (.bool true)) := by
  have HF : Hid (∀ W, Calls Try.prog 18 #[.string s] W (Same W (.bool true))) := Lib.hid (fun W => by rw [hsv]; exact formed_yes ha W)
  have HS := Lib.hid hP
  have HW := Lib.hid awake4
  have HV : Below w.heap.size w w := Below.refl _ _
  have wn : IntKind.i64.wrap (n : Int) = (n : Int) := by rw [IntKind.wrap_i64] <;> omega
  have e1 : (n : Int) % 12 = (j : Int) := by omega
  have e1' : Int.tmod (n : Int) 12 = (j : Int) := by rw [Int.tmod_eq_emod_of_nonneg (by omega)]; exact e1
  have j12 : j < 12 := by omega
  have e2 : (k : Int) % 8 = 1 := by omega
  have e2' : Int.tmod (k : Int) 8 = 1 := by rw [Int.tmod_eq_emod_of_nonneg (by omega)]; exact e2
  have e3 : (k : Int) / 8 = (m : Int) := by omega
  have e3' : Int.tdiv (k : Int) 8 = (m : Int) := by rw [Int.tdiv_eq_ediv_of_nonneg (by omega)]; exact e3
  have hm : m ≤ 15 := by omega
  have hb1 : bs (mersB 1 0) = ⟨#[1]⟩ := bs_byte 1 (by decide) (by decide)
  have HX := Lib.hid (And.intro hc hb1)
  have K0 := (Bk.new w #[.int .i64 2, .int .i64 3, .int .i64 5, .int .i64 7, .int .i64 13, .int .i64 17, .int .i64 19, .int .i64 31, .int .i64 61, .int .i64 89, .int .i64 107, .int .i64 127] 3).cell j
  rw [hc] at K0
  have HB1 := HV.alloc HV.size (.cells #[.int .i64 2, .int .i64 3, .int .i64 5, .int .i64 7, .int .i64 13, .int .i64 17, .int .i64 19, .int .i64 31, .int .i64 61, .int .i64 89, .int .i64 107, .int .i64 127] 3)
  have hB : Bt ((w.alloc (.cells #[.int .i64 2, .int .i64 3, .int .i64 5, .int .i64 7, .int .i64 13, .int .i64 17, .int .i64 19, .int .i64 31, .int .i64 61, .int .i64 89, .int .i64 107, .int .i64 127] 3)).alloc (.cells #[.int .u8 1] 5)) (w.heap.size + 1) [1] := by
    have h := heap_alloc_new (w.alloc (.cells #[.int .i64 2, .int .i64 3, .int .i64 5, .int .i64 7, .int .i64 13, .int .i64 17, .int .i64 19, .int .i64 31, .int .i64 61, .int .i64 89, .int .i64 107, .int .i64 127] 3)) (.cells #[.int .u8 1] 5)
    rw [World.size_alloc] at h
    exact h
  have hcv := hB.string (P := Try.prog) (src := 38) (dst := 9) 0 1 1 rfl Try.underlying38 Try.underlying5 Try.underlying9
  rw [show (⟨([1].drop 0).toArray⟩ : ByteArray) = ⟨#[1]⟩ from rfl] at hcv
  have HB2 := HB1.alloc HB1.size (.cells #[.int .u8 1] 5)
  have HM := Lib.hid (show ∀ i, i ≤ m → mersB 1 i < Top from fun i hi => mersB_size (by omega))
  have hs1 : (⟨#[255]⟩ : ByteArray).size = 1 := rfl
  clear hj hk h127 hsv ha hP hc hn hb1 hB
  go_enter Try.func6, Try.ntmps6
  go_wp2_with fail
  refine (HF.out _).mono ?_
  rintro e w2 ⟨rfl, rfl⟩
  go_wp2
  go_loopw [7, 39] (fun x7 x39 wr => ∃ i : Nat, i ≤ m ∧ x39 = .int .i64 i ∧ x7 = .string (bs (mersB 1 i)) ∧ Below w.heap.size w wr) (fun _ x39 _ => m - (intOf x39).toNat)
  case atStart => exact ⟨0, Nat.zero_le _, rfl, by rw [HX.out.2], HB2⟩
  case round =>
    obtain ⟨i, hi, rfl, rfl, HB⟩ := hrel
    by_cases hlt : i < m
    · have h128 := bs_small (HM.out i hi)
      have hng : ¬ (9223372036854775807 < (bs (mersB 1 i)).size + 1) := by omega
      have hng2 : ¬ (9223372036854775807 < (bs (mersB 1 i)).size + (⟨#[255]⟩ : ByteArray).size) := by rw [hs1]; exact hng
      go_wp2
      go_roundw
      case rel => exact ⟨i + 1, by omega, by go_num, by rw [mersB_next], HB⟩
      case measure => simp [intOf]; omega
    · obtain rfl : i = m := by omega
      go_wp2_with fail
      refine (HS.out _).mono ?_
      rintro e w3 ⟨rfl, hb⟩
      replace HB := HB.trans (hb.mono HB.size)
      clear hb
      go_wp2_with fail
      refine (HW.out _).mono ?_
      rintro e w4 ⟨rfl, hb⟩
      replace HB := HB.trans (hb.mono HB.size)
      clear hb
      go_wp2
      go_ret
      exact ⟨rfl, HB⟩
set_option maxHeartbeats 2000000 in
set_option maxRecDepth 100000 in
theorem pmer_core2 (s : ByteArray) (n a : Nat) (j k m : Nat) (w : World) (h40 : s.size ≤ 40) (hn : n < 256) (hj : n % 12 = j) (hc : (#[.int .i64 2, .int .i64 3, .int .i64 5, .int .i64 7, .int .i64 13, .int .i64 17, .int .i64 19, .int .i64 31, .int .i64 61, .int .i64 89, .int .i64 107, .int .i64 127] : Array Value)[j]? = some (.int .i64 (k : Int))) (hk : k = 2 + 8 * m) (h127 : k ≤ 127)
    (hsv : s = bs a) (ha : a < Top) (hP : ∀ W, Calls Try.prog 16 #[.string (bs (mersB 2 m)), .string s] W (Made W (.tuple #[.bool true, .int .i64 0]))) :
    Calls Try.prog 6 #[.int .u8 (n : Int), .string s] w (Made w (.bool true)) := by
  have HF : Hid (∀ W, Calls Try.prog 18 #[.string s] W (Same W (.bool true))) := Lib.hid (fun W => by rw [hsv]; exact formed_yes ha W)
  have HS := Lib.hid hP
  have HW := Lib.hid awake4
  have HV : Below w.heap.size w w := Below.refl _ _
  have wn : IntKind.i64.wrap (n : Int) = (n : Int) := by rw [IntKind.wrap_i64] <;> omega
  have e1 : (n : Int) % 12 = (j : Int) := by omega
  have e1' : Int.tmod (n : Int) 12 = (j : Int) := by rw [Int.tmod_eq_emod_of_nonneg (by omega)]; exact e1
  have j12 : j < 12 := by omega
  have e2 : (k : Int) % 8 = 2 := by omega
  have e2' : Int.tmod (k : Int) 8 = 2 := by rw [Int.tmod_eq_emod_of_nonneg (by omega)]; exact e2
  have e3 : (k : Int) / 8 = (m : Int) := by omega
  have e3' : Int.tdiv (k : Int) 8 = (m : Int) := by rw [Int.tdiv_eq_ediv_of_nonneg (by omega)]; exact e3
  have hm : m ≤ 15 := by omega
  have hb1 : bs (mersB 2 0) = ⟨#[3]⟩ := bs_byte 3 (by decide) (by decide)
  have HX := Lib.hid (And.intro hc hb1)
  have K0 := (Bk.new w #[.int .i64 2, .int .i64 3, .int .i64 5, .int .i64 7, .int .i64 13, .int .i64 17, .int .i64 19, .int .i64 31, .int .i64 61, .int .i64 89, .int .i64 107, .int .i64 127] 3).cell j
  rw [hc] at K0
  have HB1 := HV.alloc HV.size (.cells #[.int .i64 2, .int .i64 3, .int .i64 5, .int .i64 7, .int .i64 13, .int .i64 17, .int .i64 19, .int .i64 31, .int .i64 61, .int .i64 89, .int .i64 107, .int .i64 127] 3)
  have hB : Bt ((w.alloc (.cells #[.int .i64 2, .int .i64 3, .int .i64 5, .int .i64 7, .int .i64 13, .int .i64 17, .int .i64 19, .int .i64 31, .int .i64 61, .int .i64 89, .int .i64 107, .int .i64 127] 3)).alloc (.cells #[.int .u8 3] 5)) (w.heap.size + 1) [3] := by
    have h := heap_alloc_new (w.alloc (.cells #[.int .i64 2, .int .i64 3, .int .i64 5, .int .i64 7, .int .i64 13, .int .i64 17, .int .i64 19, .int .i64 31, .int .i64 61, .int .i64 89, .int .i64 107, .int .i64 127] 3)) (.cells #[.int .u8 3] 5)
    rw [World.size_alloc] at h
    exact h
  have hcv := hB.string (P := Try.prog) (src := 38) (dst := 9) 0 1 1 rfl Try.underlying38 Try.underlying5 Try.underlying9
  rw [show (⟨([3].drop 0).toArray⟩ : ByteArray) = ⟨#[3]⟩ from rfl] at hcv
  have HB2 := HB1.alloc HB1.size (.cells #[.int .u8 3] 5)
  have HM := Lib.hid (show ∀ i, i ≤ m → mersB 2 i < Top from fun i hi => mersB_size (by omega))
  have hs1 : (⟨#[255]⟩ : ByteArray).size = 1 := rfl
  clear hj hk h127 hsv ha hP hc hn hb1 hB
  go_enter Try.func6, Try.ntmps6
  go_wp2_with fail
  refine (HF.out _).mono ?_
  rintro e w2 ⟨rfl, rfl⟩
  go_wp2
  go_loopw [7, 39] (fun x7 x39 wr => ∃ i : Nat, i ≤ m ∧ x39 = .int .i64 i ∧ x7 = .string (bs (mersB 2 i)) ∧ Below w.heap.size w wr) (fun _ x39 _ => m - (intOf x39).toNat)
  case atStart => exact ⟨0, Nat.zero_le _, rfl, by rw [HX.out.2], HB2⟩
  case round =>
    obtain ⟨i, hi, rfl, rfl, HB⟩ := hrel
    by_cases hlt : i < m
    · have h128 := bs_small (HM.out i hi)
      have hng : ¬ (9223372036854775807 < (bs (mersB 2 i)).size + 1) := by omega
      have hng2 : ¬ (9223372036854775807 < (bs (mersB 2 i)).size + (⟨#[255]⟩ : ByteArray).size) := by rw [hs1]; exact hng
      go_wp2
      go_roundw
      case rel => exact ⟨i + 1, by omega, by go_num, by rw [mersB_next], HB⟩
      case measure => simp [intOf]; omega
    · obtain rfl : i = m := by omega
      go_wp2_with fail
      refine (HS.out _).mono ?_
      rintro e w3 ⟨rfl, hb⟩
      replace HB := HB.trans (hb.mono HB.size)
      clear hb
      go_wp2_with fail
      refine (HW.out _).mono ?_
      rintro e w4 ⟨rfl, hb⟩
      replace HB := HB.trans (hb.mono HB.size)
      clear hb
      go_wp2
      go_ret
      exact ⟨rfl, HB⟩
set_option maxHeartbeats 2000000 in
set_option maxRecDepth 100000 in
theorem pmer_core3 (s : ByteArray) (n a : Nat) (j k m : Nat) (w : World) (h40 : s.size ≤ 40) (hn : n < 256) (hj : n % 12 = j) (hc : (#[.int .i64 2, .int .i64 3, .int .i64 5, .int .i64 7, .int .i64 13, .int .i64 17, .int .i64 19, .int .i64 31, .int .i64 61, .int .i64 89, .int .i64 107, .int .i64 127] : Array Value)[j]? = some (.int .i64 (k : Int))) (hk : k = 3 + 8 * m) (h127 : k ≤ 127)
    (hsv : s = bs a) (ha : a < Top) (hP : ∀ W, Calls Try.prog 16 #[.string (bs (mersB 3 m)), .string s] W (Made W (.tuple #[.bool true, .int .i64 0]))) :
    Calls Try.prog 6 #[.int .u8 (n : Int), .string s] w (Made w (.bool true)) := by
  have HF : Hid (∀ W, Calls Try.prog 18 #[.string s] W (Same W (.bool true))) := Lib.hid (fun W => by rw [hsv]; exact formed_yes ha W)
  have HS := Lib.hid hP
  have HW := Lib.hid awake4
  have HV : Below w.heap.size w w := Below.refl _ _
  have wn : IntKind.i64.wrap (n : Int) = (n : Int) := by rw [IntKind.wrap_i64] <;> omega
  have e1 : (n : Int) % 12 = (j : Int) := by omega
  have e1' : Int.tmod (n : Int) 12 = (j : Int) := by rw [Int.tmod_eq_emod_of_nonneg (by omega)]; exact e1
  have j12 : j < 12 := by omega
  have e2 : (k : Int) % 8 = 3 := by omega
  have e2' : Int.tmod (k : Int) 8 = 3 := by rw [Int.tmod_eq_emod_of_nonneg (by omega)]; exact e2
  have e3 : (k : Int) / 8 = (m : Int) := by omega
  have e3' : Int.tdiv (k : Int) 8 = (m : Int) := by rw [Int.tdiv_eq_ediv_of_nonneg (by omega)]; exact e3
  have hm : m ≤ 15 := by omega
  have hb1 : bs (mersB 3 0) = ⟨#[7]⟩ := bs_byte 7 (by decide) (by decide)
  have HX := Lib.hid (And.intro hc hb1)
  have K0 := (Bk.new w #[.int .i64 2, .int .i64 3, .int .i64 5, .int .i64 7, .int .i64 13, .int .i64 17, .int .i64 19, .int .i64 31, .int .i64 61, .int .i64 89, .int .i64 107, .int .i64 127] 3).cell j
  rw [hc] at K0
  have HB1 := HV.alloc HV.size (.cells #[.int .i64 2, .int .i64 3, .int .i64 5, .int .i64 7, .int .i64 13, .int .i64 17, .int .i64 19, .int .i64 31, .int .i64 61, .int .i64 89, .int .i64 107, .int .i64 127] 3)
  have hB : Bt ((w.alloc (.cells #[.int .i64 2, .int .i64 3, .int .i64 5, .int .i64 7, .int .i64 13, .int .i64 17, .int .i64 19, .int .i64 31, .int .i64 61, .int .i64 89, .int .i64 107, .int .i64 127] 3)).alloc (.cells #[.int .u8 7] 5)) (w.heap.size + 1) [7] := by
    have h := heap_alloc_new (w.alloc (.cells #[.int .i64 2, .int .i64 3, .int .i64 5, .int .i64 7, .int .i64 13, .int .i64 17, .int .i64 19, .int .i64 31, .int .i64 61, .int .i64 89, .int .i64 107, .int .i64 127] 3)) (.cells #[.int .u8 7] 5)
    rw [World.size_alloc] at h
    exact h
  have hcv := hB.string (P := Try.prog) (src := 38) (dst := 9) 0 1 1 rfl Try.underlying38 Try.underlying5 Try.underlying9
  rw [show (⟨([7].drop 0).toArray⟩ : ByteArray) = ⟨#[7]⟩ from rfl] at hcv
  have HB2 := HB1.alloc HB1.size (.cells #[.int .u8 7] 5)
  have HM := Lib.hid (show ∀ i, i ≤ m → mersB 3 i < Top from fun i hi => mersB_size (by omega))
  have hs1 : (⟨#[255]⟩ : ByteArray).size = 1 := rfl
  clear hj hk h127 hsv ha hP hc hn hb1 hB
  go_enter Try.func6, Try.ntmps6
  go_wp2_with fail
  refine (HF.out _).mono ?_
  rintro e w2 ⟨rfl, rfl⟩
  go_wp2
  go_loopw [7, 39] (fun x7 x39 wr => ∃ i : Nat, i ≤ m ∧ x39 = .int .i64 i ∧ x7 = .string (bs (mersB 3 i)) ∧ Below w.heap.size w wr) (fun _ x39 _ => m - (intOf x39).toNat)
  case atStart => exact ⟨0, Nat.zero_le _, rfl, by rw [HX.out.2], HB2⟩
  case round =>
    obtain ⟨i, hi, rfl, rfl, HB⟩ := hrel
    by_cases hlt : i < m
    · have h128 := bs_small (HM.out i hi)
      have hng : ¬ (9223372036854775807 < (bs (mersB 3 i)).size + 1) := by omega
      have hng2 : ¬ (9223372036854775807 < (bs (mersB 3 i)).size + (⟨#[255]⟩ : ByteArray).size) := by rw [hs1]; exact hng
      go_wp2
      go_roundw
      case rel => exact ⟨i + 1, by omega, by go_num, by rw [mersB_next], HB⟩
      case measure => simp [intOf]; omega
    · obtain rfl : i = m := by omega
      go_wp2_with fail
      refine (HS.out _).mono ?_
      rintro e w3 ⟨rfl, hb⟩
      replace HB := HB.trans (hb.mono HB.size)
      clear hb
      go_wp2_with fail
      refine (HW.out _).mono ?_
      rintro e w4 ⟨rfl, hb⟩
      replace HB := HB.trans (hb.mono HB.size)
      clear hb
      go_wp2
      go_ret
      exact ⟨rfl, HB⟩
set_option maxHeartbeats 2000000 in
set_option maxRecDepth 100000 in
theorem pmer_core5 (s : ByteArray) (n a : Nat) (j k m : Nat) (w : World) (h40 : s.size ≤ 40) (hn : n < 256) (hj : n % 12 = j) (hc : (#[.int .i64 2, .int .i64 3, .int .i64 5, .int .i64 7, .int .i64 13, .int .i64 17, .int .i64 19, .int .i64 31, .int .i64 61, .int .i64 89, .int .i64 107, .int .i64 127] : Array Value)[j]? = some (.int .i64 (k : Int))) (hk : k = 5 + 8 * m) (h127 : k ≤ 127)
    (hsv : s = bs a) (ha : a < Top) (hP : ∀ W, Calls Try.prog 16 #[.string (bs (mersB 5 m)), .string s] W (Made W (.tuple #[.bool true, .int .i64 0]))) :
    Calls Try.prog 6 #[.int .u8 (n : Int), .string s] w (Made w (.bool true)) := by
  have HF : Hid (∀ W, Calls Try.prog 18 #[.string s] W (Same W (.bool true))) := Lib.hid (fun W => by rw [hsv]; exact formed_yes ha W)
  have HS := Lib.hid hP
  have HW := Lib.hid awake4
  have HV : Below w.heap.size w w := Below.refl _ _
  have wn : IntKind.i64.wrap (n : Int) = (n : Int) := by rw [IntKind.wrap_i64] <;> omega
  have e1 : (n : Int) % 12 = (j : Int) := by omega
  have e1' : Int.tmod (n : Int) 12 = (j : Int) := by rw [Int.tmod_eq_emod_of_nonneg (by omega)]; exact e1
  have j12 : j < 12 := by omega
  have e2 : (k : Int) % 8 = 5 := by omega
  have e2' : Int.tmod (k : Int) 8 = 5 := by rw [Int.tmod_eq_emod_of_nonneg (by omega)]; exact e2
  have e3 : (k : Int) / 8 = (m : Int) := by omega
  have e3' : Int.tdiv (k : Int) 8 = (m : Int) := by rw [Int.tdiv_eq_ediv_of_nonneg (by omega)]; exact e3
  have hm : m ≤ 15 := by omega
  have hb1 : bs (mersB 5 0) = ⟨#[31]⟩ := bs_byte 31 (by decide) (by decide)
  have HX := Lib.hid (And.intro hc hb1)
  have K0 := (Bk.new w #[.int .i64 2, .int .i64 3, .int .i64 5, .int .i64 7, .int .i64 13, .int .i64 17, .int .i64 19, .int .i64 31, .int .i64 61, .int .i64 89, .int .i64 107, .int .i64 127] 3).cell j
  rw [hc] at K0
  have HB1 := HV.alloc HV.size (.cells #[.int .i64 2, .int .i64 3, .int .i64 5, .int .i64 7, .int .i64 13, .int .i64 17, .int .i64 19, .int .i64 31, .int .i64 61, .int .i64 89, .int .i64 107, .int .i64 127] 3)
  have hB : Bt ((w.alloc (.cells #[.int .i64 2, .int .i64 3, .int .i64 5, .int .i64 7, .int .i64 13, .int .i64 17, .int .i64 19, .int .i64 31, .int .i64 61, .int .i64 89, .int .i64 107, .int .i64 127] 3)).alloc (.cells #[.int .u8 31] 5)) (w.heap.size + 1) [31] := by
    have h := heap_alloc_new (w.alloc (.cells #[.int .i64 2, .int .i64 3, .int .i64 5, .int .i64 7, .int .i64 13, .int .i64 17, .int .i64 19, .int .i64 31, .int .i64 61, .int .i64 89, .int .i64 107, .int .i64 127] 3)) (.cells #[.int .u8 31] 5)
    rw [World.size_alloc] at h
    exact h
  have hcv := hB.string (P := Try.prog) (src := 38) (dst := 9) 0 1 1 rfl Try.underlying38 Try.underlying5 Try.underlying9
  rw [show (⟨([31].drop 0).toArray⟩ : ByteArray) = ⟨#[31]⟩ from rfl] at hcv
  have HB2 := HB1.alloc HB1.size (.cells #[.int .u8 31] 5)
  have HM := Lib.hid (show ∀ i, i ≤ m → mersB 5 i < Top from fun i hi => mersB_size (by omega))
  have hs1 : (⟨#[255]⟩ : ByteArray).size = 1 := rfl
  clear hj hk h127 hsv ha hP hc hn hb1 hB
  go_enter Try.func6, Try.ntmps6
  go_wp2_with fail
  refine (HF.out _).mono ?_
  rintro e w2 ⟨rfl, rfl⟩
  go_wp2
  go_loopw [7, 39] (fun x7 x39 wr => ∃ i : Nat, i ≤ m ∧ x39 = .int .i64 i ∧ x7 = .string (bs (mersB 5 i)) ∧ Below w.heap.size w wr) (fun _ x39 _ => m - (intOf x39).toNat)
  case atStart => exact ⟨0, Nat.zero_le _, rfl, by rw [HX.out.2], HB2⟩
  case round =>
    obtain ⟨i, hi, rfl, rfl, HB⟩ := hrel
    by_cases hlt : i < m
    · have h128 := bs_small (HM.out i hi)
      have hng : ¬ (9223372036854775807 < (bs (mersB 5 i)).size + 1) := by omega
      have hng2 : ¬ (9223372036854775807 < (bs (mersB 5 i)).size + (⟨#[255]⟩ : ByteArray).size) := by rw [hs1]; exact hng
      go_wp2
      go_roundw
      case rel => exact ⟨i + 1, by omega, by go_num, by rw [mersB_next], HB⟩
      case measure => simp [intOf]; omega
    · obtain rfl : i = m := by omega
      go_wp2_with fail
      refine (HS.out _).mono ?_
      rintro e w3 ⟨rfl, hb⟩
      replace HB := HB.trans (hb.mono HB.size)
      clear hb
      go_wp2_with fail
      refine (HW.out _).mono ?_
      rintro e w4 ⟨rfl, hb⟩
      replace HB := HB.trans (hb.mono HB.size)
      clear hb
      go_wp2
      go_ret
      exact ⟨rfl, HB⟩
set_option maxHeartbeats 2000000 in
set_option maxRecDepth 100000 in
theorem pmer_core7 (s : ByteArray) (n a : Nat) (j k m : Nat) (w : World) (h40 : s.size ≤ 40) (hn : n < 256) (hj : n % 12 = j) (hc : (#[.int .i64 2, .int .i64 3, .int .i64 5, .int .i64 7, .int .i64 13, .int .i64 17, .int .i64 19, .int .i64 31, .int .i64 61, .int .i64 89, .int .i64 107, .int .i64 127] : Array Value)[j]? = some (.int .i64 (k : Int))) (hk : k = 7 + 8 * m) (h127 : k ≤ 127)
    (hsv : s = bs a) (ha : a < Top) (hP : ∀ W, Calls Try.prog 16 #[.string (bs (mersB 7 m)), .string s] W (Made W (.tuple #[.bool true, .int .i64 0]))) :
    Calls Try.prog 6 #[.int .u8 (n : Int), .string s] w (Made w (.bool true)) := by
  have HF : Hid (∀ W, Calls Try.prog 18 #[.string s] W (Same W (.bool true))) := Lib.hid (fun W => by rw [hsv]; exact formed_yes ha W)
  have HS := Lib.hid hP
  have HW := Lib.hid awake4
  have HV : Below w.heap.size w w := Below.refl _ _
  have wn : IntKind.i64.wrap (n : Int) = (n : Int) := by rw [IntKind.wrap_i64] <;> omega
  have e1 : (n : Int) % 12 = (j : Int) := by omega
  have e1' : Int.tmod (n : Int) 12 = (j : Int) := by rw [Int.tmod_eq_emod_of_nonneg (by omega)]; exact e1
  have j12 : j < 12 := by omega
  have e2 : (k : Int) % 8 = 7 := by omega
  have e2' : Int.tmod (k : Int) 8 = 7 := by rw [Int.tmod_eq_emod_of_nonneg (by omega)]; exact e2
  have e3 : (k : Int) / 8 = (m : Int) := by omega
  have e3' : Int.tdiv (k : Int) 8 = (m : Int) := by rw [Int.tdiv_eq_ediv_of_nonneg (by omega)]; exact e3
  have hm : m ≤ 15 := by omega
  have hb1 : bs (mersB 7 0) = ⟨#[127]⟩ := bs_byte 127 (by decide) (by decide)
  have HX := Lib.hid (And.intro hc hb1)
  have K0 := (Bk.new w #[.int .i64 2, .int .i64 3, .int .i64 5, .int .i64 7, .int .i64 13, .int .i64 17, .int .i64 19, .int .i64 31, .int .i64 61, .int .i64 89, .int .i64 107, .int .i64 127] 3).cell j
  rw [hc] at K0
  have HB1 := HV.alloc HV.size (.cells #[.int .i64 2, .int .i64 3, .int .i64 5, .int .i64 7, .int .i64 13, .int .i64 17, .int .i64 19, .int .i64 31, .int .i64 61, .int .i64 89, .int .i64 107, .int .i64 127] 3)
  have hB : Bt ((w.alloc (.cells #[.int .i64 2, .int .i64 3, .int .i64 5, .int .i64 7, .int .i64 13, .int .i64 17, .int .i64 19, .int .i64 31, .int .i64 61, .int .i64 89, .int .i64 107, .int .i64 127] 3)).alloc (.cells #[.int .u8 127] 5)) (w.heap.size + 1) [127] := by
    have h := heap_alloc_new (w.alloc (.cells #[.int .i64 2, .int .i64 3, .int .i64 5, .int .i64 7, .int .i64 13, .int .i64 17, .int .i64 19, .int .i64 31, .int .i64 61, .int .i64 89, .int .i64 107, .int .i64 127] 3)) (.cells #[.int .u8 127] 5)
    rw [World.size_alloc] at h
    exact h
  have hcv := hB.string (P := Try.prog) (src := 38) (dst := 9) 0 1 1 rfl Try.underlying38 Try.underlying5 Try.underlying9
  rw [show (⟨([127].drop 0).toArray⟩ : ByteArray) = ⟨#[127]⟩ from rfl] at hcv
  have HB2 := HB1.alloc HB1.size (.cells #[.int .u8 127] 5)
  have HM := Lib.hid (show ∀ i, i ≤ m → mersB 7 i < Top from fun i hi => mersB_size (by omega))
  have hs1 : (⟨#[255]⟩ : ByteArray).size = 1 := rfl
  clear hj hk h127 hsv ha hP hc hn hb1 hB
  go_enter Try.func6, Try.ntmps6
  go_wp2_with fail
  refine (HF.out _).mono ?_
  rintro e w2 ⟨rfl, rfl⟩
  go_wp2
  go_loopw [7, 39] (fun x7 x39 wr => ∃ i : Nat, i ≤ m ∧ x39 = .int .i64 i ∧ x7 = .string (bs (mersB 7 i)) ∧ Below w.heap.size w wr) (fun _ x39 _ => m - (intOf x39).toNat)
  case atStart => exact ⟨0, Nat.zero_le _, rfl, by rw [HX.out.2], HB2⟩
  case round =>
    obtain ⟨i, hi, rfl, rfl, HB⟩ := hrel
    by_cases hlt : i < m
    · have h128 := bs_small (HM.out i hi)
      have hng : ¬ (9223372036854775807 < (bs (mersB 7 i)).size + 1) := by omega
      have hng2 : ¬ (9223372036854775807 < (bs (mersB 7 i)).size + (⟨#[255]⟩ : ByteArray).size) := by rw [hs1]; exact hng
      go_wp2
      go_roundw
      case rel => exact ⟨i + 1, by omega, by go_num, by rw [mersB_next], HB⟩
      case measure => simp [intOf]; omega
    · obtain rfl : i = m := by omega
      go_wp2_with fail
      refine (HS.out _).mono ?_
      rintro e w3 ⟨rfl, hb⟩
      replace HB := HB.trans (hb.mono HB.size)
      clear hb
      go_wp2_with fail
      refine (HW.out _).mono ?_
      rintro e w4 ⟨rfl, hb⟩
      replace HB := HB.trans (hb.mono HB.size)
      clear hb
      go_wp2
      go_ret
      exact ⟨rfl, HB⟩
theorem law_pmer (n : Int) (s : ByteArray) (w : World) (h : 0 ≤ n ∧ n ≤ 255) (hs : s.size ≤ 9223372036854775807) :
    Calls Try.prog 6 #[.int .u8 n, .string s] w (Made w (.bool true)) := by
  obtain ⟨n, rfl⟩ := Int.eq_ofNat_of_zero_le h.1
  by_cases h40 : s.size ≤ 40
  · rcases hv : validB s with _ | _
    · exact pmer_skip s _ w hs (.inr ⟨h40, hv⟩)
    · obtain ⟨a, ha, rfl⟩ := bs_of_valid hv
      have hP : ∀ k, k ∈ [2, 3, 5, 7, 13, 17, 19, 31, 61, 89, 107, 127] → ∀ r m, k = r + 8 * m → k ≤ 127 → ∀ W, Calls Try.prog 16 #[.string (bs (mersB r m)), .string (bs a)] W (Made W (.tuple #[.bool true, .int .i64 0])) := by
        intro k hk r m hrm h127 W
        have h1 := pstrong_ok (mersB r m) a W (mersB_size (by omega)) ha
        have h2 : mersB r m = 2 ^ k - 1 := by unfold mersB; rw [hrm]
        rwa [prime_strong (p := mersB r m) (by rw [h2]; exact mers_prime hk)] at h1
      have hn : n < 256 := by omega
      rcases (show n % 12 = 0 ∨ n % 12 = 1 ∨ n % 12 = 2 ∨ n % 12 = 3 ∨ n % 12 = 4 ∨ n % 12 = 5 ∨ n % 12 = 6 ∨ n % 12 = 7 ∨ n % 12 = 8 ∨ n % 12 = 9 ∨ n % 12 = 10 ∨ n % 12 = 11 by omega) with hj | hj | hj | hj | hj | hj | hj | hj | hj | hj | hj | hj
      · exact pmer_core2 _ n a 0 2 0 w h40 hn hj rfl (by decide) (by decide) rfl ha (hP 2 (by decide) 2 0 (by decide) (by decide))
      · exact pmer_core3 _ n a 1 3 0 w h40 hn hj rfl (by decide) (by decide) rfl ha (hP 3 (by decide) 3 0 (by decide) (by decide))
      · exact pmer_core5 _ n a 2 5 0 w h40 hn hj rfl (by decide) (by decide) rfl ha (hP 5 (by decide) 5 0 (by decide) (by decide))
      · exact pmer_core7 _ n a 3 7 0 w h40 hn hj rfl (by decide) (by decide) rfl ha (hP 7 (by decide) 7 0 (by decide) (by decide))
      · exact pmer_core5 _ n a 4 13 1 w h40 hn hj rfl (by decide) (by decide) rfl ha (hP 13 (by decide) 5 1 (by decide) (by decide))
      · exact pmer_core1 _ n a 5 17 2 w h40 hn hj rfl (by decide) (by decide) rfl ha (hP 17 (by decide) 1 2 (by decide) (by decide))
      · exact pmer_core3 _ n a 6 19 2 w h40 hn hj rfl (by decide) (by decide) rfl ha (hP 19 (by decide) 3 2 (by decide) (by decide))
      · exact pmer_core7 _ n a 7 31 3 w h40 hn hj rfl (by decide) (by decide) rfl ha (hP 31 (by decide) 7 3 (by decide) (by decide))
      · exact pmer_core5 _ n a 8 61 7 w h40 hn hj rfl (by decide) (by decide) rfl ha (hP 61 (by decide) 5 7 (by decide) (by decide))
      · exact pmer_core1 _ n a 9 89 11 w h40 hn hj rfl (by decide) (by decide) rfl ha (hP 89 (by decide) 1 11 (by decide) (by decide))
      · exact pmer_core3 _ n a 10 107 13 w h40 hn hj rfl (by decide) (by decide) rfl ha (hP 107 (by decide) 3 13 (by decide) (by decide))
      · exact pmer_core7 _ n a 11 127 15 w h40 hn hj rfl (by decide) (by decide) rfl ha (hP 127 (by decide) 7 15 (by decide) (by decide))
  · exact pmer_skip s _ w hs (.inl (by omega))
end Go.Proofs.Ytnnohjabneepiaa
