/-
  The contracts of the reference's xored and padded.
-/
import Derived.Test.YtgchfponmaangaaShaI
namespace Go.Proofs.Ytgchfponmaangaa
open Go.RowKit
theorem fl_set (T D : List UInt8) (n : Nat) (hT : n < T.length) (hD : D.length = T.length) : (T.take n ++ D.drop n).set n (T.getD n 0) = T.take (n + 1) ++ D.drop (n + 1) := by
  have hl : (T.take n).length = n := by simp; omega
  rw [List.take_succ_eq_append_getElem hT, List.drop_eq_getElem_cons (by omega), List.set_append_right _ _ (by omega), hl, Nat.sub_self, List.set_cons_zero, List.getD_eq_getElem?_getD, List.getElem?_eq_getElem hT, List.append_assoc]
  rfl
theorem fl_length (T D : List UInt8) (n : Nat) (hT : n ≤ T.length) (hD : D.length = T.length) : (T.take n ++ D.drop n).length = T.length := by simp; omega
theorem keyb_getD (K : List UInt8) (x : UInt8) (i : Nat) (hi : i < 64) (hK : K.length ≤ 64) : (keyb K x).getD i 0 = if i < K.length then K.getD i 0 ^^^ x else x := by
  unfold keyb
  simp only [List.getD_eq_getElem?_getD, List.getElem?_map]
  by_cases h : i < K.length
  · rw [if_pos h, List.getElem?_append_left h, List.getElem?_eq_getElem h]
    rfl
  · rw [if_neg h, List.getElem?_append_right (by omega), List.getElem?_replicate, if_pos (by omega)]
    simp
theorem By.set_set {w : World} {g : Nat} {l : List UInt8} {t : TypeId} (h : By w g l t) (k : Nat) (x y : UInt8) : By ((w.setCell ⟨g, k, none⟩ (.int .u8 (x.toNat : Int))).setCell ⟨g, k, none⟩ (.int .u8 (y.toNat : Int))) g (l.set k y) t := by
  have := (h.set k x).set k y
  rwa [List.set_set] at this
set_option maxRecDepth 100000 in
set_option maxHeartbeats 1600000 in
theorem xored_ok (s : ByteArray) (x : UInt8) (hs : s.size ≤ 64) (w : World) :
    Calls Try.prog 24 #[.string s, .int .u8 (x.toNat : Int)] w fun e w' => e = .returned (.string ⟨(keyb s.data.toList x).toArray⟩) ∧ Below w.heap.size w w' := by
  have hmk : ∀ W, (Instr.makeSlice 27 (.int .i64 64) (.int .i64 64)).run Try.prog W = .ok (.slice (some ⟨W.heap.size, 0, none⟩) 64 64) (W.alloc (.cells (cellsB (List.replicate 64 0)).toArray 5)) := fun W => made_run W 64 64 (by omega) (by omega)
  obtain ⟨T, hT⟩ : ∃ T, T = keyb s.data.toList x := ⟨_, rfl⟩
  have HTl := Lib.hid (show T.length = 64 from by rw [hT]; exact keyb_length _ _ (by rw [size_toList]; exact hs))
  have HTg := Lib.hid (show ∀ i, i < 64 → T.getD i 0 = if i < s.size then s.data.toList.getD i 0 ^^^ x else x from by
    intro i hi; rw [hT, keyb_getD _ _ i hi (by rw [size_toList]; exact hs), size_toList])
  rw [← hT]
  clear hT
  go_enter Try.func24, Try.ntmps24
  go_wp2_with fail
  clear hmk
  go_loopw [6] (fun v6 wr => ∃ i : Nat, i ≤ 64 ∧ v6 = .int .i64 i ∧ By wr w.heap.size (T.take i ++ (List.replicate 64 0).drop i) 5 ∧ Below w.heap.size w wr) (fun i _ => 64 - (intOf i).toNat)
  case atStart => exact ⟨0, by omega, rfl, heap_alloc_new _ _, (Below.refl w.heap.size w).alloc (Nat.le_refl _) _⟩
  case round =>
    obtain ⟨i, hi, rfl, hM, hB⟩ := hrel
    by_cases hlt : i < 64
    · have hf := hM.frozen i
      have hln := fl_length T (List.replicate 64 0) i (by rw [HTl.out]; exact hi) (by rw [HTl.out]; simp)
      have hc := hM.cell i (by rw [hln, HTl.out]; exact hlt)
      have hx := fun a => xor_u8 a x
      have HM := Lib.hid hM
      have HTs := Lib.hid (fl_set T (List.replicate 64 0) i (by rw [HTl.out]; exact hlt) (by rw [HTl.out]; simp))
      clear hM hln
      by_cases hk : i < s.size
      · have HV := Lib.hid (HTg.out i hlt)
        go_wp2
        go_roundw
        case rel =>
          refine ⟨i + 1, by omega, by go_num, ?_, (hB.setCell (Nat.le_refl _) _).setCell (Nat.le_refl _) _⟩
          rw [← HTs.out, HV.out, if_pos hk, ← at_byte s i hk]
          exact HM.out.set_set i x (s[i] ^^^ x)
        case measure => simp [intOf]; omega
      · have HV := Lib.hid (HTg.out i hlt)
        go_wp2
        go_roundw
        case rel =>
          refine ⟨i + 1, by omega, by go_num, ?_, hB.setCell (Nat.le_refl _) _⟩
          rw [← HTs.out, HV.out, if_neg hk]
          exact HM.out.set i x
        case measure => simp [intOf]; omega
    · obtain rfl : i = 64 := by omega
      have HT := Lib.hid (show T.take 64 ++ (List.replicate 64 (0 : UInt8)).drop 64 = T from by rw [List.take_of_length_le (by rw [HTl.out]; omega)]; simp)
      rw [HT.out] at hM
      have hc := By.string hM 64 64 HTl.out.symm
      clear hM
      rw [show ((64 : Nat) : Int) = 64 from rfl]
      go_wp2
      go_ret
      exact ⟨rfl, hB⟩
theorem be8_getD (n k : Nat) (hk : k < 8) : (be8 n).getD (7 - k) 0 = byt (8 * (n : Int) / 2 ^ (8 * k)) := by
  have h := be8_length n
  rw [List.getD_eq_getElem?_getD, List.getElem?_eq_getElem (by omega)]
  simp only [be8, List.getElem_map, List.getElem_range, Option.getD_some]
  rw [show 7 - (7 - k) = k from by omega]
/-- The last bytes are set first. -/
theorem bl_set (T D : List UInt8) (k : Nat) (hk : k < T.length) (hD : D.length = T.length) : (D.take (T.length - k) ++ T.drop (T.length - k)).set (T.length - 1 - k) (T.getD (T.length - 1 - k) 0) = D.take (T.length - (k + 1)) ++ T.drop (T.length - (k + 1)) := by
  have e : T.length - k = T.length - 1 - k + 1 := by omega
  have e2 : T.length - (k + 1) = T.length - 1 - k := by omega
  rw [e2, e]
  generalize hm : T.length - 1 - k = m
  have hl : (D.take m).length = m := by simp; omega
  rw [List.take_succ_eq_append_getElem (by omega), List.append_assoc, List.set_append_right _ _ (by omega), hl, Nat.sub_self]
  rw [List.drop_eq_getElem_cons (i := m) (by omega), List.getD_eq_getElem?_getD, List.getElem?_eq_getElem (by omega)]
  rfl
theorem bl_length (T D : List UInt8) (k : Nat) (hk : k ≤ T.length) (hD : D.length = T.length) : (D.take (T.length - k) ++ T.drop (T.length - k)).length = T.length := by simp; omega
theorem quo_more (z : Int) (k : Nat) : z / 2 ^ (8 * k) / 256 = z / 2 ^ (8 * (k + 1)) := by
  rw [Int.ediv_ediv_of_nonneg (Int.pow_nonneg (by decide)), show 8 * (k + 1) = 8 * k + 8 from by omega, Int.pow_add]
  rfl
set_option maxRecDepth 100000 in
set_option maxHeartbeats 1600000 in
theorem rpadded_ok (s : ByteArray) (hs : s.size ≤ 1099511627776) (w : World) :
    Calls Try.prog 21 #[.string s] w fun e w' => e = .returned (.string ⟨(padded s.data.toList).toArray⟩) ∧ Below w.heap.size w w' := by
  have hmk : ∀ W, (Instr.makeSlice 27 (.int .i64 8) (.int .i64 8)).run Try.prog W = .ok (.slice (some ⟨W.heap.size, 0, none⟩) 8 8) (W.alloc (.cells (cellsB (List.replicate 8 0)).toArray 5)) := fun W => made_run W 8 8 (by omega) (by omega)
  obtain ⟨n, hn⟩ : ∃ n, n = s.size := ⟨_, rfl⟩
  have HN := Lib.hid hn
  have hnl : n ≤ s.size := by omega
  have hnl2 : s.size ≤ n := by omega
  clear hn
  go_enter Try.func21, Try.ntmps21
  go_wp2_with fail
  go_loop [0] (fun v0 => ∃ (z : Nat) (T : ByteArray), z ≤ padz n ∧ v0 = .string T ∧ Hid (T.data.toList = s.data.toList ++ [128] ++ List.replicate z 0)) (fun v0 => match v0 with | .string T => n + 100 - T.size | _ => 0)
  case atStart => exact ⟨0, _, by omega, rfl, Lib.hid (by rw [append_data]; simp)⟩
  case round =>
    obtain ⟨z, T, hz, rfl, HT⟩ := hrel
    have hTs : T.size = n + 1 + z := by rw [← size_toList T, HT.out, HN.out, ← size_toList s]; simp; omega
    have hp : padz n < 64 := by unfold padz; omega
    have hTl : T.size ≤ n + 65 := by omega
    have HTs := Lib.hid hTs
    by_cases hlt : z < padz n
    · have ht : ((T.size : Int) % 64 != 56) = true := by
        have : ¬ (T.size : Int) % 64 = 56 := by unfold padz at hlt; omega
        simpa using this
      clear hTs
      go_wp2_with fail
      refine ⟨⟨z + 1, T ++ ⟨#[0]⟩, by omega, rfl, Lib.hid (by rw [append_data, HT.out, List.replicate_succ', ← List.append_assoc])⟩, ?_⟩
      show n + 100 - (T ++ ⟨#[0]⟩ : ByteArray).size < n + 100 - T.size
      have := HTs.out
      rw [ByteArray.size_append]
      show n + 100 - (T.size + 1) < n + 100 - T.size
      omega
    · obtain rfl : z = padz n := by omega
      have ht : ((T.size : Int) % 64 != 56) = false := by
        have : (T.size : Int) % 64 = 56 := by unfold padz at hTs; omega
        simpa using this
      clear hTs hlt
      go_wp2_with fail
      go_loopw [5, 6] (fun v5 v6 wr => ∃ (k : Nat) (x : Int), k ≤ 8 ∧ v6 = .int .i64 (7 - (k : Int)) ∧ v5 = .int .u64 x ∧ 0 ≤ x ∧ x ≤ 8796093022208 ∧ Hid (x = 8 * (n : Int) / 2 ^ (8 * k)) ∧ By wr w.heap.size ((List.replicate 8 0).take (8 - k) ++ (be8 n).drop (8 - k)) 5 ∧ Below w.heap.size w wr) (fun _ i _ => (intOf i + 1).toNat)
      case atStart => exact ⟨0, (s.size : Int) * 8, by omega, rfl, rfl, by omega, by omega, Lib.hid (by rw [HN.out]; simp; omega), by rw [List.drop_eq_nil_of_le (by rw [be8_length]; omega)]; exact heap_alloc_new _ _, (Below.refl w.heap.size w).alloc (Nat.le_refl _) _⟩
      case round =>
        obtain ⟨k, x, hk, rfl, rfl, hx0, hx1, HX, hM, hB⟩ := hrel
        by_cases hlk : k < 8
        · have hf := hM.frozen (7 - k)
          have hc := hM.cell (7 - k) (by rw [List.length_append, List.length_take, List.length_drop, List.length_replicate, be8_length]; omega)
          have HM := Lib.hid hM
          clear hM
          have q1 : (0 : Int) ≤ 7 - (k : Int) := by omega
          have q2 : 7 - (k : Int) < 8 := by omega
          have q3 : (7 - (k : Int)).toNat = 7 - k := by omega
          go_wp2
          go_roundw
          case rel =>
            refine ⟨k + 1, x / 256, by omega, val_int (by omega), rfl, by omega, by omega, Lib.hid (by rw [HX.out, quo_more]), ?_, hB.setCell (Nat.le_refl _) _⟩
            have e := HM.out.set (7 - k) (byt x)
            have g := bl_set (be8 n) (List.replicate 8 0) k (by rw [be8_length]; exact hlk) (by rw [be8_length]; rfl)
            rw [be8_length, show 8 - 1 - k = 7 - k from by omega, be8_getD n k hlk, ← HX.out] at g
            rw [byt_toNat, g] at e
            exact e
          case measure => simp [intOf]; omega
        · obtain rfl : k = 8 := by omega
          rw [show (List.replicate 8 (0 : UInt8)).take (8 - 8) ++ (be8 n).drop (8 - 8) = be8 n from by simp] at hM
          have hc := By.string hM 8 8 (be8_length n).symm
          have hbl := Nat.le_of_eq (be8_length n)
          have HP := Lib.hid (show T ++ ⟨(be8 n).toArray⟩ = (⟨(padded s.data.toList).toArray⟩ : ByteArray) from by
            apply ByteArray.ext
            apply Array.toList_inj.1
            rw [append_data, HT.out]
            show _ ++ be8 n = padded s.data.toList
            unfold padded tailb
            rw [size_toList, ← HN.out]
            simp)
          clear hM
          rw [show (7 : Int) - ((8 : Nat) : Int) = -1 from rfl]
          go_wp2
          go_ret
          exact ⟨ret_str (by rw [HP.out]), hB⟩
end Go.Proofs.Ytgchfponmaangaa
