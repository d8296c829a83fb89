/-
  The contract of the reference's Sum.
-/
import Derived.Test.YtgchfponmaangaaShaQ
import Derived.Test.YtgchfponmaangaaShaS
namespace Go.Proofs.Ytgchfponmaangaa
open Go.RowKit
theorem padded_length (L : List UInt8) : (padded L).length = 64 * ((padded L).length / 64) := by
  have e := tb_eq L.length
  have : (padded L).length = L.length + (padz L.length + 9) := by unfold padded; rw [List.length_append, tailb_length]
  omega
set_option maxRecDepth 100000 in
set_option maxHeartbeats 1600000 in
theorem rsum_ok (s : ByteArray) (hs : s.size ≤ 1099511627776) (w : World) :
    Calls Try.prog 11 #[.string s] w fun e w' => e = .returned (.string ⟨(shaL s.data.toList).toArray⟩) ∧ Below w.heap.size w w' := by
  obtain ⟨P, hP⟩ : ∃ P, P = padded s.data.toList := ⟨_, rfl⟩
  obtain ⟨m, hm⟩ : ∃ m, m = P.length / 64 := ⟨_, rfl⟩
  have C1 := Lib.hid (fun W => rpadded_ok s hs W)
  rw [← hP] at C1
  have hPl : P.length = 64 * m := by rw [hm, hP]; exact padded_length _
  have hPs : (⟨P.toArray⟩ : ByteArray).size = 64 * m := by rw [← hPl]; exact (size_toList _).symm
  have hmm : m ≤ 34359738370 := by
    have e := tb_eq s.data.toList.length
    have : P.length = s.size + (padz s.size + 9) := by rw [hP]; unfold padded; rw [List.length_append, tailb_length, size_toList]
    have : padz s.size < 64 := by unfold padz; omega
    omega
  have HPs := Lib.hid hPs
  have HR := Lib.hid (show shaL s.data.toList = wtext (blks iv P m) from by rw [hm, hP]; rfl)
  clear hP hm hPl hPs
  obtain ⟨T, hT⟩ : ∃ T : ByteArray, T = ⟨P.toArray⟩ := ⟨_, rfl⟩
  rw [← hT] at C1 HPs
  have HT := Lib.hid (show T.data.toList = P from by rw [hT])
  have hTl : T.size ≤ 64 * m := Nat.le_of_eq HPs.out
  have hTg : 64 * m ≤ T.size := Nat.le_of_eq HPs.out.symm
  clear hT
  go_enter Try.func11, Try.ntmps11
  go_wp2_with fail
  refine (C1.out _).mono ?_
  rintro e w1 ⟨rfl, hb⟩
  have hV0 := Rd8.new w 1779033703 3144134277 1013904242 2773480762 1359893119 2600822924 528734635 1541459225 30
  have HV := Lib.hid (show Rd8 w1 w.heap.size iv from hV0.kept hb)
  have HB := ((Below.refl w.heap.size w).alloc (Nat.le_refl _) _).trans (hb.mono (by simp))
  clear hV0 hb
  go_wp2_with fail
  go_loopw [3, 5] (fun v3 v5 wr => ∃ (n gv cv : Nat), n ≤ m ∧ v5 = .int .i64 (64 * n : Nat) ∧ v3 = .slice (some ⟨gv, 0, none⟩) 8 cv ∧ Rd8 wr gv (blks iv P n) ∧ Below w.heap.size w wr) (fun _ i _ => T.size - (intOf i).toNat)
  case atStart => exact ⟨0, w.heap.size, 8, by omega, rfl, rfl, HV.out, HB⟩
  case round =>
    clear HV HB
    obtain ⟨n, gv, cv, hn, rfl, rfl, hV, hB⟩ := hrel
    by_cases hlt : n < m
    · have hL : 64 * n + 64 ≤ T.size := by omega
      have hS : 64 ≤ (T.extract (64 * n) (64 * n + 64)).size := by simp; omega
      have HE := Lib.hid (show (T.extract (64 * n) (64 * n + 64)).data.toList = (P.drop (64 * n)).take 64 from by rw [str_extract, HT.out, show 64 * n + 64 - 64 * n = 64 from by omega])
      have HLb := Lib.hid (blks_length (l := iv) rfl P n)
      have hVs := hV.2.2
      have HV := Lib.hid hV
      clear hV
      go_wp2_with fail
      refine (compress_ok HLb.out gv cv _ hS _ HV.out).mono ?_
      rintro e w2 ⟨g2, c2, rfl, _, hV2, _, hb⟩
      have hB2 := hB.trans (hb.mono hB.size)
      clear hb hB HV
      go_wp2_with fail
      go_roundw
      case rel => exact ⟨n + 1, g2, c2, by omega, by go_num, rfl, by rw [show blks iv P (n + 1) = blk (blks iv P n) ((P.drop (64 * n)).take 64) from rfl, ← HE.out]; exact hV2, hB2⟩
      case measure => simp [intOf]; omega
    · obtain rfl : n = m := by omega
      have hVl := blks_length (l := iv) rfl P n
      generalize blks iv P n = l at *
      have HV := Lib.hid hV
      have HLl := Lib.hid hVl
      clear hV hVl
      have hz : T.size = 64 * n := HPs.out
      rw [show ((64 * n : Nat) : Int) = (T.size : Int) from by rw [hz]]
      clear hz
      go_wp2_with fail
      obtain ⟨wo, hwo⟩ : ∃ wo : World, wr = wo := ⟨_, rfl⟩
      rw [hwo] at HV hB ⊢
      go_loopw [6, 7] (fun v6 v7 wi => ∃ (i : Nat), i ≤ 8 ∧ v7 = .int .i64 i ∧ Ob wi wo.heap.size v6 (wtext (l.take i)) ∧ Below wo.heap.size wo wi) (fun _ i _ => 8 - (intOf i).toNat)
      case atStart => exact ⟨0, by omega, rfl, ⟨rfl, .inl ⟨rfl, rfl⟩⟩, Below.refl _ _⟩
      case round =>
        obtain ⟨i, hi, rfl, hO, hB1⟩ := hrel
        obtain ⟨A, cap, rfl⟩ := owns_form (show World.ownsRow _ _ _ _ _ _ _ from hO)
        by_cases hlt : i < 8
        · obtain ⟨x, hx, HX⟩ : ∃ x, wr.cell? ⟨gv, i, none⟩ = some (.int .u32 x) ∧ Hid (wtext (l.take (i + 1)) = wtext (l.take i) ++ wbytes x) := by
            refine ⟨l.getD i 0, (HV.out.kept hB1).1 i hlt, Lib.hid ?_⟩
            have h : i < l.length := by rw [HLl.out]; exact hlt
            unfold wtext
            rw [List.take_succ_eq_append_getElem h, List.flatMap_append]
            simp [h]
          have HO := Lib.hid hO
          clear hO
          have HW := Lib.hid (show (#[.int .u8 (x / 16777216 % 256), .int .u8 (x / 65536 % 256), .int .u8 (x / 256 % 256), .int .u8 (x % 256)] : Array Value) = (cellsB (wbytes x)).toArray from by simp [cellsB, wbytes, byt_toNat])
          have HE := Lib.hid (show (wtext (l.take i)).length ≤ 32 from by rw [wtext_length, List.length_take]; omega)
          have hsz := hB1.size
          go_wp2_with (at_builtin; go_loud (refine app rfl _ _ rfl wo.heap.size _ (wtext (l.take i)) (wbytes x) rfl HO.out 4 rfl _ rfl rfl _ HW.out hsz (by have := HE.out; omega) ?_); intro v1 w1 hO1 hB2)
          go_roundw
          case rel => exact ⟨i + 1, by omega, by go_num, by rw [HX.out]; exact hO1, hB2 _ hB1⟩
          case measure => simp [intOf]; omega
        · obtain rfl : i = 8 := by omega
          have hc := Ob.string hO
          have HTx := Lib.hid (show wtext (l.take 8) = wtext l from by rw [List.take_of_length_le (by rw [HLl.out]; omega)])
          clear hO
          go_wp2
          go_ret
          exact ⟨ret_str (by rw [HTx.out, HR.out]), hB.trans (hB1.mono hB.size)⟩
end Go.Proofs.Ytgchfponmaangaa
