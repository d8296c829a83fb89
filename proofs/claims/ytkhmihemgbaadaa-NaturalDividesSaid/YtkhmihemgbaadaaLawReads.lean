/-
  dominolaw01.NaturalReads returns true: the walk, for every string and every index.
-/
import Derived.Test.YtkhmihemgbaadaaLawA
namespace Go.Proofs.Ytkhmihemgbaadaa
open Go.RowKit Num

theorem bits_no (s : ByteArray) (w : World) (hs : s.size ≤ 9223372036854775807) (hv : validB s = false) (ht : s.toList.isEmpty = false) :
    Calls Try.prog 27 #[.string s] w (Same w (.int .i64 0)) := by
  have HV := Lib.hid (fun W => valid_no hv W hs)
  clear hv
  go_enter Try.func27, Try.ntmps27
  go_wp2_with (go_at_call 25; refine (HV.out _).mono ?_; rintro e w' ⟨rfl, rfl⟩)
  go_ret
  exact ⟨rfl, rfl⟩
theorem not_empty {s : ByteArray} (h : validB s = false) : s.toList.isEmpty = false := by
  rw [ByteArray.toList_eq]
  cases hc : s.data.toList with
  | nil =>
    have h2 := size_toList s
    rw [hc] at h2
    unfold validB at h
    rw [hc] at h
    simp at h2 h
    omega
  | cons a l => rfl
theorem rbits_yes {a : Nat} (ha : a < Top) (w : World) : Calls Try.prog 28 #[.string (bs a)] w (Same w (.int .i64 (nb a : Nat))) := by
  have hs := bs_small ha
  have HA := Lib.hid ha
  clear ha
  go_enter Try.func28, Try.ntmps28
  go_wp2_with (first | (go_at_call 26; refine (rvalid_yes HA.out _).mono ?_; rintro e w' ⟨rfl, rfl⟩) | (go_at_call 84; refine (rbits_any a _ (by omega)).mono ?_; rintro e w' ⟨rfl, rfl⟩))
  go_ret
  exact ⟨rfl, rfl⟩
theorem rbits_no (s : ByteArray) (w : World) (hs : s.size ≤ 9223372036854775807) (hv : validB s = false) : Calls Try.prog 28 #[.string s] w (Same w (.int .i64 0)) := by
  have HV := Lib.hid (fun W => rvalid_no hv W hs)
  clear hv
  go_enter Try.func28, Try.ntmps28
  go_wp2_with (go_at_call 26; refine (HV.out _).mono ?_; rintro e w' ⟨rfl, rfl⟩)
  go_ret
  exact ⟨rfl, rfl⟩
theorem bit_out (s : ByteArray) (v : Nat) (i : Int) (w : World) (B : ∀ W, Calls Try.prog 27 #[.string s] W (Same W (.int .i64 (v : Int)))) (hi : i < 0 ∨ (v : Int) ≤ i) :
    Calls Try.prog 29 #[.string s, .int .i64 i] w (Same w (.bool false)) := by
  have HB := Lib.hid B
  clear B
  by_cases h : i < 0
  · go_enter Try.func29, Try.ntmps29
    go_wp2
    go_ret
    exact ⟨rfl, rfl⟩
  · have h2 : (v : Int) ≤ i := by omega
    have h3 : 0 ≤ i := by omega
    clear hi
    go_enter Try.func29, Try.ntmps29
    go_wp2_with (go_at_call 27; refine (HB.out _).mono ?_; rintro e w' ⟨rfl, rfl⟩)
    go_ret
    exact ⟨rfl, rfl⟩
theorem rbit_inv (s : ByteArray) (i : Int) (w : World) (hs : s.size ≤ 9223372036854775807) (hv : validB s = false) : Calls Try.prog 30 #[.string s, .int .i64 i] w (Same w (.bool false)) := by
  have HV := Lib.hid (fun W => rvalid_no hv W hs)
  clear hv
  go_enter Try.func30, Try.ntmps30
  go_wp2_with (go_at_call 26; refine (HV.out _).mono ?_; rintro e w' ⟨rfl, rfl⟩)
  go_ret
  exact ⟨rfl, rfl⟩
theorem rbit_neg {a : Nat} (ha : a < Top) (i : Int) (w : World) (hi : i < 0) : Calls Try.prog 30 #[.string (bs a), .int .i64 i] w (Same w (.bool false)) := by
  have HA := Lib.hid ha
  clear ha
  go_enter Try.func30, Try.ntmps30
  go_wp2_with (go_at_call 26; refine (rvalid_yes HA.out _).mono ?_; rintro e w' ⟨rfl, rfl⟩)
  go_ret
  exact ⟨rfl, rfl⟩
theorem rbit_out {a : Nat} (ha : a < Top) (i : Int) (w : World) (hi0 : 0 ≤ i) (hi : (nb a : Int) ≤ i) : Calls Try.prog 30 #[.string (bs a), .int .i64 i] w (Same w (.bool false)) := by
  have hs := bs_small ha
  have HA := Lib.hid ha
  clear ha
  go_enter Try.func30, Try.ntmps30
  go_wp2_with (first | (go_at_call 26; refine (rvalid_yes HA.out _).mono ?_; rintro e w' ⟨rfl, rfl⟩) | (go_at_call 84; refine (rbits_any a _ (by omega)).mono ?_; rintro e w' ⟨rfl, rfl⟩))
  go_ret
  exact ⟨rfl, rfl⟩
theorem rbit_in {a : Nat} (ha : a < Top) (i : Nat) (w : World) (hi : i < nb a) : Calls Try.prog 30 #[.string (bs a), .int .i64 i] w (Same w (.bool (bitB a i))) := by
  have hs := bs_small ha
  have hlt := nb_size hi
  have HA := Lib.hid ha
  have hii : (i : Int) < (nb a : Int) := by omega
  have h8 : i ≤ 100000 := by omega
  have HD : Hid (decide (i < nb a) = true) := Lib.hid (by simpa using hi)
  have hd := HD.out
  clear ha
  go_enter Try.func30, Try.ntmps30
  go_wp2_with (first | (go_at_call 26; refine (rvalid_yes HA.out _).mono ?_; rintro e w' ⟨rfl, rfl⟩) | (go_at_call 84; refine (rbits_any a _ (by omega)).mono ?_; rintro e w' ⟨rfl, rfl⟩) | (go_at_call 85; refine (one_any a i _ (by omega) (by omega)).mono ?_; rintro e w' ⟨rfl, rfl⟩))
  go_ret
  exact ⟨rfl, rfl⟩

set_option maxHeartbeats 1000000 in
set_option maxRecDepth 100000 in
theorem reads_core (s : ByteArray) (i : Int) (w : World) (x : Nat) (y t : Bool) (v : Nat) (hs : s.size ≤ 200)
    (S1 : ∀ W, Calls Try.prog 23 #[.string s] W (Same W (.tuple #[.int .u64 x, .bool y]))) (S2 : ∀ W, Calls Try.prog 24 #[.string s] W (Same W (.tuple #[.int .u64 x, .bool y])))
    (B1 : ∀ W, Calls Try.prog 27 #[.string s] W (Same W (.int .i64 (v : Int)))) (B2 : ∀ W, Calls Try.prog 28 #[.string s] W (Same W (.int .i64 (v : Int))))
    (T1 : ∀ W, Calls Try.prog 29 #[.string s, .int .i64 i] W (Same W (.bool t))) (T2 : ∀ W, Calls Try.prog 30 #[.string s, .int .i64 i] W (Same W (.bool t))) :
    Calls Try.prog 3 #[.string s, .int .i64 i] w (Made w (.bool true)) := by
  have H1 := Lib.hid S1
  have H2 := Lib.hid S2
  have H3 := Lib.hid B1
  have H4 := Lib.hid B2
  have H5 := Lib.hid T1
  have H6 := Lib.hid T2
  have V1 := Lib.hid (fun W => valid_any s W (by omega))
  have V2 := Lib.hid (fun W => rvalid_any s W (by omega))
  clear S1 S2 B1 B2 T1 T2
  generalize validB s = vb at *
  have hB : Below w.heap.size w (w.alloc (.cells #[.string s] 22)) := (Below.refl _ _).alloc (Nat.le_refl _) _
  have F1 : Calls Try.prog 21 #[.slice (some ⟨w.heap.size, 0, none⟩) 1 1] (w.alloc (.cells #[.string s] 22)) (Same (w.alloc (.cells #[.string s] 22)) (.bool true)) :=
    few_yes w.heap.size 1 1 (fun _ => s) _ (fun k hk => by
      obtain rfl : k = 0 := by omega
      rw [World.cell?_alloc_mark]; rfl) (by omega) (fun _ _ => hs)
  have HF := Lib.hid F1
  clear F1
  cases vb <;> cases y <;> cases t
  all_goals
    go_enter Try.func3, Try.ntmps3
    go_wp2_with fail
    refine HF.out.mono ?_
    rintro e w' ⟨rfl, rfl⟩
    go_wp2_with (first
      | (go_at_call 23; refine (H1.out _).mono ?_; rintro e w' ⟨rfl, rfl⟩)
      | (go_at_call 24; refine (H2.out _).mono ?_; rintro e w' ⟨rfl, rfl⟩)
      | (go_at_call 27; refine (H3.out _).mono ?_; rintro e w' ⟨rfl, rfl⟩)
      | (go_at_call 28; refine (H4.out _).mono ?_; rintro e w' ⟨rfl, rfl⟩)
      | (go_at_call 29; refine (H5.out _).mono ?_; rintro e w' ⟨rfl, rfl⟩)
      | (go_at_call 30; refine (H6.out _).mono ?_; rintro e w' ⟨rfl, rfl⟩)
      | (go_at_call 25; refine (V1.out _).mono ?_; rintro e w' ⟨rfl, rfl⟩)
      | (go_at_call 26; refine (V2.out _).mono ?_; rintro e w' ⟨rfl, rfl⟩)
      | (go_at_call 22; refine (awake_any _).mono ?_; rintro e w' ⟨rfl, hb⟩; replace hB := hB.trans (hb.mono hB.size); clear hb))
    go_ret
    exact ⟨rfl, hB⟩

set_option maxHeartbeats 1000000 in
set_option maxRecDepth 100000 in
theorem reads_big (s : ByteArray) (i : Int) (w : World) (hm : s.size ≤ 9223372036854775807) (hs : 200 < s.size) :
    Calls Try.prog 3 #[.string s, .int .i64 i] w (Made w (.bool true)) := by
  have hB : Below w.heap.size w (w.alloc (.cells #[.string s] 22)) := (Below.refl _ _).alloc (Nat.le_refl _) _
  have F1 : Calls Try.prog 21 #[.slice (some ⟨w.heap.size, 0, none⟩) 1 1] (w.alloc (.cells #[.string s] 22)) (Same (w.alloc (.cells #[.string s] 22)) (.bool false)) :=
    few_no w.heap.size 1 1 (fun _ => s) _ (fun k hk => by
      obtain rfl : k = 0 := by omega
      rw [World.cell?_alloc_mark]; rfl) (by omega) (fun _ _ => hm) ⟨0, by omega, hs⟩
  have HF := Lib.hid F1
  clear F1
  go_enter Try.func3, Try.ntmps3
  go_wp2_with fail
  refine HF.out.mono ?_
  rintro e w' ⟨rfl, rfl⟩
  go_wp2_with (go_at_call 22; refine (awake_any _).mono ?_; rintro e w' ⟨rfl, hb⟩; replace hB := hB.trans (hb.mono hB.size); clear hb)
  go_ret
  exact ⟨rfl, hB⟩

theorem law_reads (s : ByteArray) (i : Int) (w : World) (hm : s.size ≤ 9223372036854775807) :
    Calls Try.prog 3 #[.string s, .int .i64 i] w (Made w (.bool true)) := by
  rcases Nat.lt_or_ge 200 s.size with hs | hs
  · exact reads_big s i w hm hs
  · have sm : ∀ (h : validB s = false ∨ 8 < s.size), (∀ W, Calls Try.prog 23 #[.string s] W (Same W (.tuple #[.int .u64 ((0 : Nat) : Int), .bool false]))) ∧ (∀ W, Calls Try.prog 24 #[.string s] W (Same W (.tuple #[.int .u64 ((0 : Nat) : Int), .bool false]))) :=
      fun h => ⟨fun W => small_no s W hm h, fun W => rsmall_no s W hm h⟩
    by_cases hv : validB s = true
    · obtain ⟨n, hn, rfl⟩ := bs_of_valid hv
      have hb1 := fun W => bits_ok hn W
      have hb2 := fun W => rbits_yes hn W
      have ht : ∃ t, (∀ W, Calls Try.prog 29 #[.string (bs n), .int .i64 i] W (Same W (.bool t))) ∧ (∀ W, Calls Try.prog 30 #[.string (bs n), .int .i64 i] W (Same W (.bool t))) := by
        by_cases h0 : i < 0
        · exact ⟨false, fun W => bit_out (bs n) (nb n) i W hb1 (.inl h0), fun W => rbit_neg hn i W h0⟩
        · by_cases h1 : (nb n : Int) ≤ i
          · exact ⟨false, fun W => bit_out (bs n) (nb n) i W hb1 (.inr h1), fun W => rbit_out hn i W (by omega) h1⟩
          · obtain ⟨k, rfl⟩ := Int.eq_ofNat_of_zero_le (show 0 ≤ i by omega)
            exact ⟨bitB n k, fun W => bit_yes hn k (by omega) W, fun W => rbit_in hn k W (by omega)⟩
      obtain ⟨t, ht1, ht2⟩ := ht
      by_cases h8 : (bs n).size ≤ 8
      · have h64 : n < 18446744073709551616 := bs_le.1 h8
        exact reads_core (bs n) i w n true t (nb n) hs (fun W => small_yes n W h64) (fun W => rsmall_yes n W h64) hb1 hb2 ht1 ht2
      · obtain ⟨s1, s2⟩ := sm (.inr (by omega))
        exact reads_core (bs n) i w 0 false t (nb n) hs s1 s2 hb1 hb2 ht1 ht2
    · have hv : validB s = false := by simpa using hv
      have hb1 := fun W => bits_no s W hm hv (not_empty hv)
      have hb2 := fun W => rbits_no s W hm hv
      obtain ⟨s1, s2⟩ := sm (.inl hv)
      refine reads_core s i w 0 false false 0 hs s1 s2 hb1 hb2 (fun W => ?_) (fun W => rbit_inv s i W hm hv)
      exact bit_out s 0 i W hb1 (by omega)
end Go.Proofs.Ytkhmihemgbaadaa
