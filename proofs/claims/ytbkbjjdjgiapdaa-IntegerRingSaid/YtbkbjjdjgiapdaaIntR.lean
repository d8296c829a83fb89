/-
  The contracts of Parse of integer and of the reference.
-/
import Derived.Test.YtbkbjjdjgiapdaaIntA
import Derived.Test.YtbkbjjdjgiapdaaLawTexts
namespace Go.Proofs.Ytbkbjjdjgiapdaa
open Go.RowKit Num

theorem take_one (l : List UInt8) (h : 0 < l.length) : l.extract 0 1 = [l[0]] := by
  cases l with
  | nil => exact absurd h (by decide)
  | cons x xs => simp
theorem head_ne (l : List UInt8) (h : 0 < l.length) (hh : (l.head? == some 45) = false) : (l[0]).toNat ≠ 45 := by
  cases l with
  | nil => exact absurd h (by decide)
  | cons x xs =>
    intro e
    have : x = 45 := UInt8.toNat_inj.1 e
    rw [this] at hh
    cases hh
theorem ext01 (s : ByteArray) (h0 : 0 < s.size) : (s.extract 0 1).toList = [s[0]] := by
  rw [ByteArray.toList_eq, get_list s 0 h0]
  have hl : 0 < s.data.toList.length := by rw [size_toList]; exact h0
  rw [ByteArray.data_extract, Array.toList_extract]
  exact take_one _ hl
def minus (s : ByteArray) : Bool := s.data.toList.head? == some 45
theorem minus_pos {s : ByteArray} (h : minus s = true) : ∃ h0 : 0 < s.size, (s[0]).toNat = 45 := by
  unfold minus at h
  have hs := size_toList s
  cases hc : s.data.toList with
  | nil => rw [hc] at h; cases h
  | cons x xs =>
    rw [hc] at h hs
    have h0 : 0 < s.size := by rw [← hs]; simp
    refine ⟨h0, ?_⟩
    rw [get_list s 0 h0]
    simp only [hc]
    have : x = 45 := by simpa using h
    simp [this]
theorem minus_not {s : ByteArray} (h : minus s = false) (h0 : 0 < s.size) : (s[0]).toNat ≠ 45 := by
  rw [get_list s 0 h0]
  exact head_ne _ _ h
/-- What is left of a text behind its sign. -/
def behind (s : ByteArray) : ByteArray := if minus s then s.extract 1 s.size else s

set_option maxHeartbeats 400000 in
set_option maxRecDepth 100000 in
theorem cut_any (s : ByteArray) (w : World) (hs : s.size ≤ 9223372036854775807) :
    Calls Try.prog 87 #[.string s, .string ⟨#[45]⟩] w (Same w (.tuple #[.string (behind s), .bool (minus s)])) := by
  unfold behind
  rcases hm : minus s with _ | _
  · rw [if_neg (by decide)]
    by_cases h0 : 0 < s.size
    · have he : ((s.extract 0 1).toList == [45]) = false := by
        rw [ext01 s h0, beq_eq_false_iff_ne]
        intro e
        injection e with e
        exact minus_not hm h0 (by rw [e]; rfl)
      clear hm
      go_enter Try.func87, Try.ntmps87
      go_wp2
      go_ret2
      exact ⟨rfl, rfl⟩
    · clear hm
      go_enter Try.func87, Try.ntmps87
      go_wp2
      go_ret2
      exact ⟨rfl, rfl⟩
  · rw [if_pos rfl]
    obtain ⟨h0, h1⟩ := minus_pos hm
    have he : ((s.extract 0 1).toList == [45]) = true := by
      rw [ext01 s h0, beq_iff_eq, show s[0] = 45 from UInt8.toNat_inj.1 h1]
    clear hm h1
    go_enter Try.func87, Try.ntmps87
    go_wp2
    go_ret2
    exact ⟨rfl, rfl⟩

set_option maxHeartbeats 400000 in
set_option maxRecDepth 100000 in
theorem iparse_err (s : ByteArray) {n : Nat} {e : Int} (h : e ≠ 0) (w : World) (hs : s.size ≤ 9223372036854775807)
    (C : ∀ W, Calls Try.prog 18 #[.string (behind s)] W (Made W (.tuple #[.string (bs n), .int .i64 e]))) :
    Calls Try.prog 50 #[.string s] w (Made w (.tuple #[(.agg #[.bool (zneg 0), .string (bs (zabs 0))]), .int .i64 e])) := by
  have HC := Lib.hid (fun W => cut_any s W hs)
  have HP := Lib.hid C
  have he : (e == 0) = false := by rw [beq_eq_false_iff_ne]; exact h
  rw [iv_zero]
  clear C h
  generalize minus s = m at HC
  go_enter Try.func50, Try.ntmps50
  go_wp2_with fail
  refine (HC.out _).mono ?_
  rintro e w' ⟨rfl, rfl⟩
  go_wp2_with fail
  refine (HP.out _).mono ?_
  rintro e w1 ⟨rfl, hb⟩
  have HB := hb
  clear hb
  obtain ⟨hc, hf⟩ := bcell HB
  have hz : w.heap.size + 0 < w1.heap.size := by have := HB.size; simp at this; omega
  have hB := ((Below.refl w.heap.size w).alloc (Nat.le_refl _) (.cells #[.bool false, .string ⟨#[]⟩] 37)).trans (HB.mono (by simp))
  go_wp2
  exact bodyPost_ret (v := .tuple #[.agg #[.bool false, .string ⟨#[]⟩], .int .i64 e]) (by simp [results, Try.results50, go_sem, hc]) rfl ⟨rfl, (hB.setCell (by simp) _).setCell (by simp) _⟩

set_option maxHeartbeats 400000 in
set_option maxRecDepth 100000 in
theorem iparse_zero (s : ByteArray) (hm : minus s = true) (w : World) (hs : s.size ≤ 9223372036854775807)
    (C : ∀ W, Calls Try.prog 18 #[.string (behind s)] W (Made W (.tuple #[.string (bs 0), .int .i64 0]))) :
    Calls Try.prog 50 #[.string s] w (Made w (.tuple #[(.agg #[.bool (zneg 0), .string (bs (zabs 0))]), .int .i64 4])) := by
  have HC := Lib.hid (fun W => cut_any s W hs)
  have HP := Lib.hid C
  have he : (bs 0).toList.isEmpty = true := by rw [bs_isEmpty]; rfl
  rw [hm] at HC
  rw [iv_zero]
  clear C hm
  go_enter Try.func50, Try.ntmps50
  go_wp2_with fail
  refine (HC.out _).mono ?_
  rintro e w' ⟨rfl, rfl⟩
  go_wp2_with fail
  refine (HP.out _).mono ?_
  rintro e w1 ⟨rfl, hb⟩
  have HB := hb
  clear hb
  obtain ⟨hc, hf⟩ := bcell HB
  have hz : w.heap.size + 0 < w1.heap.size := by have := HB.size; simp at this; omega
  have hB := ((Below.refl w.heap.size w).alloc (Nat.le_refl _) (.cells #[.bool false, .string ⟨#[]⟩] 37)).trans (HB.mono (by simp))
  go_wp2
  exact bodyPost_ret (v := .tuple #[.agg #[.bool false, .string ⟨#[]⟩], .int .i64 4]) (by simp [results, Try.results50, go_sem, hc]) rfl ⟨rfl, (hB.setCell (by simp) _).setCell (by simp) _⟩

set_option maxHeartbeats 400000 in
set_option maxRecDepth 100000 in
theorem iparse_pos (s : ByteArray) {n : Nat} (hm : minus s = false) (w : World) (hs : s.size ≤ 9223372036854775807)
    (C : ∀ W, Calls Try.prog 18 #[.string (behind s)] W (Made W (.tuple #[.string (bs n), .int .i64 0]))) :
    Calls Try.prog 50 #[.string s] w (Made w (.tuple #[(.agg #[.bool (zneg (sg false * (n : Int))), .string (bs (zabs (sg false * (n : Int))))]), .int .i64 0])) := by
  have HC := Lib.hid (fun W => cut_any s W hs)
  have HP := Lib.hid C
  have HS := Lib.hid (fun W => signed_any false n W)
  rw [hm] at HC
  clear C hm
  go_enter Try.func50, Try.ntmps50
  go_wp2_with fail
  refine (HC.out _).mono ?_
  rintro e w' ⟨rfl, rfl⟩
  go_wp2_with fail
  refine (HP.out _).mono ?_
  rintro e w1 ⟨rfl, hb⟩
  have HB := hb
  clear hb
  obtain ⟨hc, hf⟩ := bcell HB
  go_wp2_with fail
  refine (HS.out _).mono ?_
  rintro e w2 ⟨rfl, hb⟩
  replace HB := HB.trans (hb.mono HB.size)
  clear hb hc hf
  obtain ⟨hc, hf⟩ := bcell HB
  have hz : w.heap.size + 0 < w2.heap.size := by have := HB.size; simp at this; omega
  have hB := ((Below.refl w.heap.size w).alloc (Nat.le_refl _) (.cells #[.bool false, .string ⟨#[]⟩] 37)).trans (HB.mono (by simp))
  go_wp2
  exact bodyPost_ret (v := .tuple #[(.agg #[.bool (zneg (sg false * (n : Int))), .string (bs (zabs (sg false * (n : Int))))]), .int .i64 0]) (by simp [results, Try.results50, go_sem, hc]) rfl ⟨rfl, (hB.setCell (by simp) _).setCell (by simp) _⟩

set_option maxHeartbeats 400000 in
set_option maxRecDepth 100000 in
theorem iparse_neg (s : ByteArray) {n : Nat} (hm : minus s = true) (h0 : n ≠ 0) (w : World) (hs : s.size ≤ 9223372036854775807)
    (C : ∀ W, Calls Try.prog 18 #[.string (behind s)] W (Made W (.tuple #[.string (bs n), .int .i64 0]))) :
    Calls Try.prog 50 #[.string s] w (Made w (.tuple #[(.agg #[.bool (zneg (sg true * (n : Int))), .string (bs (zabs (sg true * (n : Int))))]), .int .i64 0])) := by
  have HC := Lib.hid (fun W => cut_any s W hs)
  have HP := Lib.hid C
  have he : (bs n).toList.isEmpty = false := by rw [bs_isEmpty]; simpa using h0
  have HS := Lib.hid (fun W => signed_any true n W)
  rw [hm] at HC
  clear C hm h0
  go_enter Try.func50, Try.ntmps50
  go_wp2_with fail
  refine (HC.out _).mono ?_
  rintro e w' ⟨rfl, rfl⟩
  go_wp2_with fail
  refine (HP.out _).mono ?_
  rintro e w1 ⟨rfl, hb⟩
  have HB := hb
  clear hb
  obtain ⟨hc, hf⟩ := bcell HB
  go_wp2_with fail
  refine (HS.out _).mono ?_
  rintro e w2 ⟨rfl, hb⟩
  replace HB := HB.trans (hb.mono HB.size)
  clear hb hc hf
  obtain ⟨hc, hf⟩ := bcell HB
  have hz : w.heap.size + 0 < w2.heap.size := by have := HB.size; simp at this; omega
  have hB := ((Below.refl w.heap.size w).alloc (Nat.le_refl _) (.cells #[.bool false, .string ⟨#[]⟩] 37)).trans (HB.mono (by simp))
  go_wp2
  exact bodyPost_ret (v := .tuple #[(.agg #[.bool (zneg (sg true * (n : Int))), .string (bs (zabs (sg true * (n : Int))))]), .int .i64 0]) (by simp [results, Try.results50, go_sem, hc]) rfl ⟨rfl, (hB.setCell (by simp) _).setCell (by simp) _⟩

end Go.Proofs.Ytbkbjjdjgiapdaa
