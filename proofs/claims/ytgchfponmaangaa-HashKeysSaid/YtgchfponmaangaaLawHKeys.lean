/-
  dominolaw05.HashKeys returns true: the walk.
-/
import Derived.Test.YtgchfponmaangaaLawHPads
import Derived.Deep.Cut
import Derived.Deep.CutRange
import Derived.Deep.RegionHeld3
namespace Go.Proofs.Ytgchfponmaangaa
open Go.RowKit
set_option maxRecDepth 100000 in
set_option maxHeartbeats 1600000 in
theorem law_hkeys_big (k s : ByteArray) (hk : k.size ≤ 9223372036854775807) (hs : s.size ≤ 9223372036854775807) (h : 300 < k.size ∨ (k.size ≤ 300 ∧ 600 < s.size)) (w : World) : Calls Try.prog 6 #[.string k, .string s] w fun e w' => e = .returned (.bool true) ∧ Below w.heap.size w w' := by
  have CA := Lib.hid (fun W => awake_ok W)
  rcases h with h | ⟨h0, h⟩
  all_goals
    go_enter Try.func6, Try.ntmps6
    go_wp2_with fail
    refine (CA.out _).mono ?_
    rintro e w1 ⟨rfl, hb⟩
    go_wp2
    go_ret
    exact ⟨rfl, hb⟩
/-- The code of a key is that of the key as it is used. -/
def short (K : List UInt8) : List UInt8 := if 64 < K.length then shaL K else K
theorem macL_short (K L : List UInt8) : macL (short K) L = macL K L := by
  unfold short
  by_cases h : 64 < K.length
  · rw [if_pos h]
    unfold macL
    rw [if_pos h, if_neg (by rw [shaL_length]; omega)]
  · rw [if_neg h]
theorem macL_eq (K L : List UInt8) : macL K L = shaL (keyb (short K) 92 ++ shaL (keyb (short K) 54 ++ L)) := rfl
theorem short_length (K : List UInt8) : (short K).length ≤ 64 := by
  unfold short
  by_cases h : 64 < K.length
  · rw [if_pos h, shaL_length]; omega
  · rw [if_neg h]; omega
set_option maxRecDepth 100000 in
set_option maxHeartbeats 3200000 in
theorem law_hkeys_long (k s : ByteArray) (hk : k.size ≤ 300) (hl : 64 < k.size) (hs : s.size ≤ 600) (w : World) : Calls Try.prog 6 #[.string k, .string s] w fun e w' => e = .returned (.bool true) ∧ Below w.heap.size w w' := by
  have CA := Lib.hid (fun W => awake_ok W)
  have hT : (⟨(short k.data.toList).toArray⟩ : ByteArray).data.toList = short k.data.toList := rfl
  have hsl := short_length k.data.toList
  have hTs : (⟨(short k.data.toList).toArray⟩ : ByteArray).size ≤ 64 := by rw [← size_toList, hT]; exact hsl
  obtain ⟨S, hS⟩ : ∃ S, S = short k.data.toList := ⟨_, rfl⟩
  obtain ⟨D, hD⟩ : ∃ D, D = macL k.data.toList s.data.toList := ⟨_, rfl⟩
  obtain ⟨I, hI⟩ : ∃ I, I = shaL (keyb S 54 ++ s.data.toList) := ⟨_, rfl⟩
  have hDS : D = shaL (keyb S 92 ++ I) := by rw [hD, hI, hS]; rfl
  have hIl : I.length = 32 := by rw [hI]; exact shaL_length _
  have h54 : (keyb S 54).length = 64 := keyb_length _ _ (by rw [hS]; exact hsl)
  have h92 : (keyb S 92).length = 64 := keyb_length _ _ (by rw [hS]; exact hsl)
  have CM := Lib.hid (fun W => mac_to k s D hD.symm (by omega) (by omega) W)
  have CT := Lib.hid (fun W => mac_to ⟨(short k.data.toList).toArray⟩ s D (by rw [hT, macL_short]; exact hD.symm) (by omega) (by omega) W)
  have CI := Lib.hid (fun W => sum_of (⟨(keyb S 54).toArray⟩ ++ s) _ I hI.symm (append_data _ _) (by rw [List.length_append, h54, size_toList]; omega) W)
  have CO := Lib.hid (fun W => sum_of (⟨(keyb S 92).toArray⟩ ++ ⟨I.toArray⟩) _ D hDS.symm (append_data _ _) (by rw [List.length_append, h92]; show 64 + I.length ≤ 1000; rw [hIl]; omega) W)
  have hmk : ∀ W, (Instr.makeSlice 27 (.int .i64 64) (.int .i64 64)).run Try.prog W = .ok (.slice (some ⟨W.heap.size, 0, none⟩) 64 64) (W.alloc (.cells (cellsB (List.replicate 64 0)).toArray 5)) := fun W => made_run W 64 64 (by omega) (by omega)
  obtain ⟨K, hK⟩ : ∃ K, K = (⟨(short k.data.toList).toArray⟩ : ByteArray).data.toList ++ (List.replicate 64 0).drop (⟨(short k.data.toList).toArray⟩ : ByteArray).size := ⟨_, rfl⟩
  have hKl : K.length = 64 := by rw [hK, List.length_append, List.length_drop, List.length_replicate, size_toList]; omega
  have hKb : ∀ x, mx K x 64 = keyb S x := by
    intro x
    rw [mx_all _ _ _ hKl.symm, hK, hS, ← hT]
    unfold keyb
    rw [List.drop_replicate, size_toList]
  have HK := Lib.hid hK
  have HKl := Lib.hid hKl
  have HKb := Lib.hid hKb
  have H54 := Lib.hid h54
  have H92 := Lib.hid h92
  have g54 := Nat.le_of_eq h54
  have g92 := Nat.le_of_eq h92
  have gI := Nat.le_of_eq hIl
  have HS := Lib.hid hS
  clear hT hS hD hI hDS hIl hK hKl hKb h54 h92
  have C0 := Lib.hid (fun W => sum_of k _ S (by rw [HS.out]; unfold short; rw [if_pos (by rw [size_toList]; exact hl)]) rfl (by rw [size_toList]; omega) W)
  rw [← HS.out] at CT HK hTs
  have gS : S.length ≤ 64 := by rw [HS.out]; exact hsl
  clear hsl
  go_enter Try.func6, Try.ntmps6
  go_upto_region 8 with (go_at_call 10; (refine (C0.out _).mono ?_); rintro e w1 ⟨rfl, hb⟩)
  have HB := hb
  clear hb C0
  go_cut [6, 7] from 27 (fun s6 s7 wx => ∃ g1 g2, g1 ≠ g2 ∧ w.heap.size ≤ g1 ∧ w.heap.size ≤ g2 ∧ s6 = .slice (some ⟨g1, 0, none⟩) 64 64 ∧ s7 = .slice (some ⟨g2, 0, none⟩) 64 64 ∧ By wx g1 (List.replicate 64 0) 5 ∧ By wx g2 (List.replicate 64 0) 5 ∧ Below w.heap.size w wx)
  case first =>
    have hz := HB.size
    go_region
    all_goals
      go_wp2_with fail
      go_meet
      first
        | exact ⟨_, _, by omega, by first | omega | (simp; done) | (simp; omega), by first | omega | (simp; done) | (simp; omega), rfl, rfl, By.drew ((heap_alloc2_old _ _ _).trans rfl), By.drew ((heap_alloc2_new _ _ _).trans rfl), ((HB.alloc HB.size _).alloc (by first | (simp; done) | (simp; omega)) _).drew⟩
        | exact ⟨_, _, by omega, by first | omega | (simp; done) | (simp; omega), by first | omega | (simp; done) | (simp; omega), rfl, rfl, By.drew ((heap_alloc2_new _ _ _).trans rfl), By.drew ((heap_alloc2_old _ _ _).trans rfl), ((HB.alloc HB.size _).alloc (by first | (simp; done) | (simp; omega)) _).drew⟩
  case rest =>
  clear HB hmk
  obtain ⟨g1, g2, hne, q1, q2, rfl, rfl, b1, b2, hB⟩ := hcut
  have b2' := (setRow_other wc g1 g2 (cellsB ((⟨S.toArray⟩ : ByteArray).data.toList ++ (List.replicate 64 0).drop (⟨S.toArray⟩ : ByteArray).size)).toArray (Ne.symm hne)).trans b2
  have B1 := Lib.hid b1
  have B2 := Lib.hid b2'
  clear b1 b2 b2'
  have tok0 : True := trivial
  go_wp2_with (first | (have _t := tok0; go_loud (refine copyb rfl (.tmp 29) (.tmp 30) rfl g1 5 (List.replicate 64 0) ⟨S.toArray⟩ 64 64 rfl rfl B1.out hTs (Nat.le_refl _) (by simp) ?_); clear _t tok0; have tok1 : True := trivial) | (have _t := tok1; go_loud (refine copyb rfl (.tmp 32) (.tmp 33) rfl g2 5 (List.replicate 64 0) ⟨S.toArray⟩ 64 64 rfl rfl B2.out hTs (Nat.le_refl _) (by simp) ?_); clear _t tok1))
  go_loopw [8] (fun v8 wr => ∃ i : Nat, i ≤ 64 ∧ v8 = .int .i64 i ∧ By wr g1 (mx K 54 i) 5 ∧ By wr g2 (mx K 92 i) 5 ∧ Below w.heap.size w wr) (fun i _ => 64 - (intOf i).toNat)
  case atStart =>
    refine ⟨0, by omega, rfl, ?_, ?_, below_setRow (below_setRow hB q1 _) q2 _⟩
    · rw [mx, HK.out]; exact (setRow_other _ _ _ _ hne).trans (setRow_heap _ _ _ _ _ _ B1.out)
    · rw [mx, HK.out]; exact setRow_heap _ _ _ _ _ _ B2.out
  case round =>
    clear B1 B2 hB
    obtain ⟨i, hi, rfl, b1, b2, hB⟩ := hrel
    by_cases hlt : i < 64
    · have c1 := b1.cell i (by rw [mx_length, HKl.out]; exact hlt)
      have c2 := b2.cell i (by rw [mx_length, HKl.out]; exact hlt)
      have f1 := b1.frozen i
      have f2 := b2.frozen i
      have x54 : ∀ a : UInt8, bits .xor .u8 (a.toNat : Int) 54 = ((a ^^^ 54).toNat : Int) := fun a => xor_u8 a 54
      have x92 : ∀ a : UInt8, bits .xor .u8 (a.toNat : Int) 92 = ((a ^^^ 92).toNat : Int) := fun a => xor_u8 a 92
      have B1 := Lib.hid b1
      have B2 := Lib.hid b2
      clear b1 b2
      go_wp2
      go_roundw
      case rel =>
        refine ⟨i + 1, by omega, by go_num, ?_, ?_, (hB.setCell q1 _).setCell q2 _⟩
        · rw [show mx K 54 (i + 1) = (mx K 54 i).set i ((mx K 54 i).getD i 0 ^^^ 54) from rfl]
          have e := (B1.out.set i ((mx K 54 i)[i]?.getD 0 ^^^ 54)).far (p := ⟨g2, i, none⟩) hne (.int .u8 (((mx K 92 i)[i]?.getD 0 ^^^ 92).toNat : Int))
          simp only [UInt8.toNat_xor, List.getD_eq_getElem?_getD] at e ⊢
          exact e
        · rw [show mx K 92 (i + 1) = (mx K 92 i).set i ((mx K 92 i).getD i 0 ^^^ 92) from rfl]
          have e := (B2.out.far (p := ⟨g1, i, none⟩) (Ne.symm hne) (.int .u8 (((mx K 54 i)[i]?.getD 0 ^^^ 54).toNat : Int))).set i ((mx K 92 i)[i]?.getD 0 ^^^ 92)
          simp only [UInt8.toNat_xor, List.getD_eq_getElem?_getD] at e ⊢
          exact e
      case measure => simp [intOf]; omega
    · obtain rfl : i = 64 := by omega
      rw [HKb.out] at b1 b2
      rw [show ((64 : Nat) : Int) = 64 from rfl]
      go_upto_region 16 with fail
      have j1 : ¬ (9223372036854775807 < (keyb S 54).length + s.size) := by omega
      have j2 : ¬ (9223372036854775807 < (keyb S 92).length + I.length) := by omega
      have m1 := b1.lt
      have m2 := b2.lt
      go_region_held3 (fun w' => (convert 27 9 (.slice (some ⟨g1, 0, none⟩) 64 64)).run Try.prog w' = .ok (.string ⟨(keyb S 54).toArray⟩) w' ∧ (convert 27 9 (.slice (some ⟨g2, 0, none⟩) 64 64)).run Try.prog w' = .ok (.string ⟨(keyb S 92).toArray⟩) w' ∧ Hid (By w' g1 (keyb S 54) 5 ∧ By w' g2 (keyb S 92) 5 ∧ Below w.heap.size w w')) (first | assumption | exact ⟨By.string b1.drew 64 64 H54.out.symm, By.string b2.drew 64 64 H92.out.symm, Lib.hid ⟨b1.drew, b2.drew, hB.drew⟩⟩) (first | (go_at_call 14; (first | (with_reducible refine (CM.out _).mono ?_) | (with_reducible refine (CT.out _).mono ?_)); rintro e wm ⟨rfl, hb⟩; obtain ⟨_, _, hk⟩ := ‹_ ∧ _›; obtain ⟨k1, k2, hv⟩ := hk.out; have hSx : (convert 27 9 (.slice (some ⟨g1, 0, none⟩) 64 64)).run Try.prog wm = .ok (.string ⟨(keyb S 54).toArray⟩) wm ∧ (convert 27 9 (.slice (some ⟨g2, 0, none⟩) 64 64)).run Try.prog wm = .ok (.string ⟨(keyb S 92).toArray⟩) wm ∧ Hid (By wm g1 (keyb S 54) 5 ∧ By wm g2 (keyb S 92) 5 ∧ Below w.heap.size w wm) := ⟨By.string (k1.kept hb) 64 64 H54.out.symm, By.string (k2.kept hb) 64 64 H92.out.symm, Lib.hid ⟨k1.kept hb, k2.kept hb, hv.trans (hb.mono hv.size)⟩⟩; clear hb hk k1 k2 hv) | (go_at_call 10; (first | (with_reducible refine (CI.out _).mono ?_) | (with_reducible refine (CO.out _).mono ?_)); rintro e ws ⟨rfl, hb⟩; obtain ⟨_, _, hk⟩ := ‹_ ∧ _›; obtain ⟨k1, k2, hv⟩ := hk.out; have hSx : (convert 27 9 (.slice (some ⟨g1, 0, none⟩) 64 64)).run Try.prog ws = .ok (.string ⟨(keyb S 54).toArray⟩) ws ∧ (convert 27 9 (.slice (some ⟨g2, 0, none⟩) 64 64)).run Try.prog ws = .ok (.string ⟨(keyb S 92).toArray⟩) ws ∧ Hid (By ws g1 (keyb S 54) 5 ∧ By ws g2 (keyb S 92) 5 ∧ Below w.heap.size w ws) := ⟨By.string (k1.kept hb) 64 64 H54.out.symm, By.string (k2.kept hb) 64 64 H92.out.symm, Lib.hid ⟨k1.kept hb, k2.kept hb, hv.trans (hb.mono hv.size)⟩⟩; clear hb hk k1 k2 hv) | (go_at_call 9; (first | (with_reducible refine (CA.out _).mono ?_)); rintro e wa ⟨rfl, hb⟩; obtain ⟨_, _, hk⟩ := ‹_ ∧ _›; obtain ⟨k1, k2, hv⟩ := hk.out; have hSx : (convert 27 9 (.slice (some ⟨g1, 0, none⟩) 64 64)).run Try.prog wa = .ok (.string ⟨(keyb S 54).toArray⟩) wa ∧ (convert 27 9 (.slice (some ⟨g2, 0, none⟩) 64 64)).run Try.prog wa = .ok (.string ⟨(keyb S 92).toArray⟩) wa ∧ Hid (By wa g1 (keyb S 54) 5 ∧ By wa g2 (keyb S 92) 5 ∧ Below w.heap.size w wa) := ⟨By.string (k1.kept hb) 64 64 H54.out.symm, By.string (k2.kept hb) 64 64 H92.out.symm, Lib.hid ⟨k1.kept hb, k2.kept hb, hv.trans (hb.mono hv.size)⟩⟩; clear hb hk k1 k2 hv))
      all_goals
        obtain ⟨_, _, hk⟩ := ‹_ ∧ _›
        obtain ⟨_, _, hv⟩ := hk.out
        go_wp2
        go_ret
        exact ⟨rfl, hv⟩
set_option maxRecDepth 100000 in
set_option maxHeartbeats 3200000 in
theorem law_hkeys_short (k s : ByteArray) (hk : k.size ≤ 300) (hl : k.size ≤ 64) (hs : s.size ≤ 600) (w : World) : Calls Try.prog 6 #[.string k, .string s] w fun e w' => e = .returned (.bool true) ∧ Below w.heap.size w w' := by
  have CA := Lib.hid (fun W => awake_ok W)
  have hT : (k : ByteArray).data.toList = short k.data.toList := by unfold short; rw [if_neg (by rw [size_toList]; omega)]
  have hsl := short_length k.data.toList
  have hTs : (k : ByteArray).size ≤ 64 := by rw [← size_toList, hT]; exact hsl
  obtain ⟨S, hS⟩ : ∃ S, S = short k.data.toList := ⟨_, rfl⟩
  obtain ⟨D, hD⟩ : ∃ D, D = macL k.data.toList s.data.toList := ⟨_, rfl⟩
  obtain ⟨I, hI⟩ : ∃ I, I = shaL (keyb S 54 ++ s.data.toList) := ⟨_, rfl⟩
  have hDS : D = shaL (keyb S 92 ++ I) := by rw [hD, hI, hS]; rfl
  have hIl : I.length = 32 := by rw [hI]; exact shaL_length _
  have h54 : (keyb S 54).length = 64 := keyb_length _ _ (by rw [hS]; exact hsl)
  have h92 : (keyb S 92).length = 64 := keyb_length _ _ (by rw [hS]; exact hsl)
  have CM := Lib.hid (fun W => mac_to k s D hD.symm (by omega) (by omega) W)
  have CT := Lib.hid (fun W => mac_to k s D (by rw [hT, macL_short]; exact hD.symm) (by omega) (by omega) W)
  have CI := Lib.hid (fun W => sum_of (⟨(keyb S 54).toArray⟩ ++ s) _ I hI.symm (append_data _ _) (by rw [List.length_append, h54, size_toList]; omega) W)
  have CO := Lib.hid (fun W => sum_of (⟨(keyb S 92).toArray⟩ ++ ⟨I.toArray⟩) _ D hDS.symm (append_data _ _) (by rw [List.length_append, h92]; show 64 + I.length ≤ 1000; rw [hIl]; omega) W)
  have hmk : ∀ W, (Instr.makeSlice 27 (.int .i64 64) (.int .i64 64)).run Try.prog W = .ok (.slice (some ⟨W.heap.size, 0, none⟩) 64 64) (W.alloc (.cells (cellsB (List.replicate 64 0)).toArray 5)) := fun W => made_run W 64 64 (by omega) (by omega)
  obtain ⟨K, hK⟩ : ∃ K, K = (k : ByteArray).data.toList ++ (List.replicate 64 0).drop (k : ByteArray).size := ⟨_, rfl⟩
  have hKl : K.length = 64 := by rw [hK, List.length_append, List.length_drop, List.length_replicate, size_toList]; omega
  have hKb : ∀ x, mx K x 64 = keyb S x := by
    intro x
    rw [mx_all _ _ _ hKl.symm, hK, hS, ← hT]
    unfold keyb
    rw [List.drop_replicate, size_toList]
  have HK := Lib.hid hK
  have HKl := Lib.hid hKl
  have HKb := Lib.hid hKb
  have H54 := Lib.hid h54
  have H92 := Lib.hid h92
  have g54 := Nat.le_of_eq h54
  have g92 := Nat.le_of_eq h92
  have gI := Nat.le_of_eq hIl
  have HS := Lib.hid hS
  clear hT hS hD hI hDS hIl hK hKl hKb h54 h92
  clear hsl
  go_enter Try.func6, Try.ntmps6
  go_upto_region 8 with fail
  have HB : Below w.heap.size w w := Below.refl _ _
  go_cut [6, 7] from 27 (fun s6 s7 wx => ∃ g1 g2, g1 ≠ g2 ∧ w.heap.size ≤ g1 ∧ w.heap.size ≤ g2 ∧ s6 = .slice (some ⟨g1, 0, none⟩) 64 64 ∧ s7 = .slice (some ⟨g2, 0, none⟩) 64 64 ∧ By wx g1 (List.replicate 64 0) 5 ∧ By wx g2 (List.replicate 64 0) 5 ∧ Below w.heap.size w wx)
  case first =>
    have hz := HB.size
    go_region
    all_goals
      go_wp2_with fail
      go_meet
      first
        | exact ⟨_, _, by omega, by first | omega | (simp; done) | (simp; omega), by first | omega | (simp; done) | (simp; omega), rfl, rfl, By.drew ((heap_alloc2_old _ _ _).trans rfl), By.drew ((heap_alloc2_new _ _ _).trans rfl), ((HB.alloc HB.size _).alloc (by first | (simp; done) | (simp; omega)) _).drew⟩
        | exact ⟨_, _, by omega, by first | omega | (simp; done) | (simp; omega), by first | omega | (simp; done) | (simp; omega), rfl, rfl, By.drew ((heap_alloc2_new _ _ _).trans rfl), By.drew ((heap_alloc2_old _ _ _).trans rfl), ((HB.alloc HB.size _).alloc (by first | (simp; done) | (simp; omega)) _).drew⟩
  case rest =>
  clear HB hmk
  obtain ⟨g1, g2, hne, q1, q2, rfl, rfl, b1, b2, hB⟩ := hcut
  have b2' := (setRow_other wc g1 g2 (cellsB ((k : ByteArray).data.toList ++ (List.replicate 64 0).drop (k : ByteArray).size)).toArray (Ne.symm hne)).trans b2
  have B1 := Lib.hid b1
  have B2 := Lib.hid b2'
  clear b1 b2 b2'
  have tok0 : True := trivial
  go_wp2_with (first | (have _t := tok0; go_loud (refine copyb rfl (.tmp 29) (.tmp 30) rfl g1 5 (List.replicate 64 0) k 64 64 rfl rfl B1.out hTs (Nat.le_refl _) (by simp) ?_); clear _t tok0; have tok1 : True := trivial) | (have _t := tok1; go_loud (refine copyb rfl (.tmp 32) (.tmp 33) rfl g2 5 (List.replicate 64 0) k 64 64 rfl rfl B2.out hTs (Nat.le_refl _) (by simp) ?_); clear _t tok1))
  go_loopw [8] (fun v8 wr => ∃ i : Nat, i ≤ 64 ∧ v8 = .int .i64 i ∧ By wr g1 (mx K 54 i) 5 ∧ By wr g2 (mx K 92 i) 5 ∧ Below w.heap.size w wr) (fun i _ => 64 - (intOf i).toNat)
  case atStart =>
    refine ⟨0, by omega, rfl, ?_, ?_, below_setRow (below_setRow hB q1 _) q2 _⟩
    · rw [mx, HK.out]; exact (setRow_other _ _ _ _ hne).trans (setRow_heap _ _ _ _ _ _ B1.out)
    · rw [mx, HK.out]; exact setRow_heap _ _ _ _ _ _ B2.out
  case round =>
    clear B1 B2 hB
    obtain ⟨i, hi, rfl, b1, b2, hB⟩ := hrel
    by_cases hlt : i < 64
    · have c1 := b1.cell i (by rw [mx_length, HKl.out]; exact hlt)
      have c2 := b2.cell i (by rw [mx_length, HKl.out]; exact hlt)
      have f1 := b1.frozen i
      have f2 := b2.frozen i
      have x54 : ∀ a : UInt8, bits .xor .u8 (a.toNat : Int) 54 = ((a ^^^ 54).toNat : Int) := fun a => xor_u8 a 54
      have x92 : ∀ a : UInt8, bits .xor .u8 (a.toNat : Int) 92 = ((a ^^^ 92).toNat : Int) := fun a => xor_u8 a 92
      have B1 := Lib.hid b1
      have B2 := Lib.hid b2
      clear b1 b2
      go_wp2
      go_roundw
      case rel =>
        refine ⟨i + 1, by omega, by go_num, ?_, ?_, (hB.setCell q1 _).setCell q2 _⟩
        · rw [show mx K 54 (i + 1) = (mx K 54 i).set i ((mx K 54 i).getD i 0 ^^^ 54) from rfl]
          have e := (B1.out.set i ((mx K 54 i)[i]?.getD 0 ^^^ 54)).far (p := ⟨g2, i, none⟩) hne (.int .u8 (((mx K 92 i)[i]?.getD 0 ^^^ 92).toNat : Int))
          simp only [UInt8.toNat_xor, List.getD_eq_getElem?_getD] at e ⊢
          exact e
        · rw [show mx K 92 (i + 1) = (mx K 92 i).set i ((mx K 92 i).getD i 0 ^^^ 92) from rfl]
          have e := (B2.out.far (p := ⟨g1, i, none⟩) (Ne.symm hne) (.int .u8 (((mx K 54 i)[i]?.getD 0 ^^^ 54).toNat : Int))).set i ((mx K 92 i)[i]?.getD 0 ^^^ 92)
          simp only [UInt8.toNat_xor, List.getD_eq_getElem?_getD] at e ⊢
          exact e
      case measure => simp [intOf]; omega
    · obtain rfl : i = 64 := by omega
      rw [HKb.out] at b1 b2
      rw [show ((64 : Nat) : Int) = 64 from rfl]
      go_upto_region 16 with fail
      have j1 : ¬ (9223372036854775807 < (keyb S 54).length + s.size) := by omega
      have j2 : ¬ (9223372036854775807 < (keyb S 92).length + I.length) := by omega
      have m1 := b1.lt
      have m2 := b2.lt
      go_region_held3 (fun w' => (convert 27 9 (.slice (some ⟨g1, 0, none⟩) 64 64)).run Try.prog w' = .ok (.string ⟨(keyb S 54).toArray⟩) w' ∧ (convert 27 9 (.slice (some ⟨g2, 0, none⟩) 64 64)).run Try.prog w' = .ok (.string ⟨(keyb S 92).toArray⟩) w' ∧ Hid (By w' g1 (keyb S 54) 5 ∧ By w' g2 (keyb S 92) 5 ∧ Below w.heap.size w w')) (first | assumption | exact ⟨By.string b1.drew 64 64 H54.out.symm, By.string b2.drew 64 64 H92.out.symm, Lib.hid ⟨b1.drew, b2.drew, hB.drew⟩⟩) (first | (go_at_call 14; (first | (with_reducible refine (CM.out _).mono ?_) | (with_reducible refine (CT.out _).mono ?_)); rintro e wm ⟨rfl, hb⟩; obtain ⟨_, _, hk⟩ := ‹_ ∧ _›; obtain ⟨k1, k2, hv⟩ := hk.out; have hSx : (convert 27 9 (.slice (some ⟨g1, 0, none⟩) 64 64)).run Try.prog wm = .ok (.string ⟨(keyb S 54).toArray⟩) wm ∧ (convert 27 9 (.slice (some ⟨g2, 0, none⟩) 64 64)).run Try.prog wm = .ok (.string ⟨(keyb S 92).toArray⟩) wm ∧ Hid (By wm g1 (keyb S 54) 5 ∧ By wm g2 (keyb S 92) 5 ∧ Below w.heap.size w wm) := ⟨By.string (k1.kept hb) 64 64 H54.out.symm, By.string (k2.kept hb) 64 64 H92.out.symm, Lib.hid ⟨k1.kept hb, k2.kept hb, hv.trans (hb.mono hv.size)⟩⟩; clear hb hk k1 k2 hv) | (go_at_call 10; (first | (with_reducible refine (CI.out _).mono ?_) | (with_reducible refine (CO.out _).mono ?_)); rintro e ws ⟨rfl, hb⟩; obtain ⟨_, _, hk⟩ := ‹_ ∧ _›; obtain ⟨k1, k2, hv⟩ := hk.out; have hSx : (convert 27 9 (.slice (some ⟨g1, 0, none⟩) 64 64)).run Try.prog ws = .ok (.string ⟨(keyb S 54).toArray⟩) ws ∧ (convert 27 9 (.slice (some ⟨g2, 0, none⟩) 64 64)).run Try.prog ws = .ok (.string ⟨(keyb S 92).toArray⟩) ws ∧ Hid (By ws g1 (keyb S 54) 5 ∧ By ws g2 (keyb S 92) 5 ∧ Below w.heap.size w ws) := ⟨By.string (k1.kept hb) 64 64 H54.out.symm, By.string (k2.kept hb) 64 64 H92.out.symm, Lib.hid ⟨k1.kept hb, k2.kept hb, hv.trans (hb.mono hv.size)⟩⟩; clear hb hk k1 k2 hv) | (go_at_call 9; (first | (with_reducible refine (CA.out _).mono ?_)); rintro e wa ⟨rfl, hb⟩; obtain ⟨_, _, hk⟩ := ‹_ ∧ _›; obtain ⟨k1, k2, hv⟩ := hk.out; have hSx : (convert 27 9 (.slice (some ⟨g1, 0, none⟩) 64 64)).run Try.prog wa = .ok (.string ⟨(keyb S 54).toArray⟩) wa ∧ (convert 27 9 (.slice (some ⟨g2, 0, none⟩) 64 64)).run Try.prog wa = .ok (.string ⟨(keyb S 92).toArray⟩) wa ∧ Hid (By wa g1 (keyb S 54) 5 ∧ By wa g2 (keyb S 92) 5 ∧ Below w.heap.size w wa) := ⟨By.string (k1.kept hb) 64 64 H54.out.symm, By.string (k2.kept hb) 64 64 H92.out.symm, Lib.hid ⟨k1.kept hb, k2.kept hb, hv.trans (hb.mono hv.size)⟩⟩; clear hb hk k1 k2 hv))
      all_goals
        obtain ⟨_, _, hk⟩ := ‹_ ∧ _›
        obtain ⟨_, _, hv⟩ := hk.out
        go_wp2
        go_ret
        exact ⟨rfl, hv⟩
theorem law_hkeys (k s : ByteArray) (w : World) (hk : k.size ≤ 9223372036854775807) (hs : s.size ≤ 9223372036854775807) : Calls Try.prog 6 #[.string k, .string s] w fun e w' => e = .returned (.bool true) ∧ Below w.heap.size w w' := by
  rcases Nat.lt_or_ge 300 k.size with h | h
  · exact law_hkeys_big k s hk hs (.inl h) w
  · rcases Nat.lt_or_ge 600 s.size with g | g
    · exact law_hkeys_big k s hk hs (.inr ⟨h, g⟩) w
    · rcases Nat.lt_or_ge 64 k.size with l | l
      · exact law_hkeys_long k s h l g w
      · exact law_hkeys_short k s h l g w
end Go.Proofs.Ytgchfponmaangaa
