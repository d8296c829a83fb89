/-
  The contract of hash.Sum.
-/
import Derived.Test.YtgchfponmaangaaShaF
import Derived.Deep.Cut
import Derived.Deep.CutRange
namespace Go.Proofs.Ytgchfponmaangaa
open Go.RowKit
theorem after_bytes {l : List Int} (hl : l.length = 8) (B : List UInt8) (m : Nat) (hs : B.length = 64 * m) (hm : m ≤ 109951162777) (w : World) :
    Calls Try.prog 18 #[.agg (cellsI l).toArray, .string ⟨B.toArray⟩] w fun e w' => e = .returned (.agg (cellsI (blks l B m)).toArray) ∧ Below w.heap.size w w' := by
  have hz : (⟨B.toArray⟩ : ByteArray).size = 64 * m := by rw [← hs]; exact (size_toList ⟨B.toArray⟩).symm
  exact after_ok hl ⟨B.toArray⟩ m hz (by omega) w
theorem str_extract (s : ByteArray) (a b : Nat) : (s.extract a b).data.toList = (s.data.toList.drop a).take (b - a) := by
  simp [List.take_drop]
set_option maxRecDepth 100000 in
set_option maxHeartbeats 1600000 in
theorem sum_ok (s : ByteArray) (hs : s.size ≤ 1099511627776) (w : World) :
    Calls Try.prog 10 #[.string s] w fun e w' => e = .returned (.string ⟨(shaL s.data.toList).toArray⟩) ∧ Below w.heap.size w w' := by
  obtain ⟨m, hm⟩ : ∃ m, m = s.size / 64 := ⟨_, rfl⟩
  have hle : 64 * m ≤ s.size := by omega
  have hlt : s.size < 64 * m + 64 := by omega
  have hE : (s.extract (64 * m) s.size).size = s.size % 64 := by simp; omega
  have hEd : (s.extract (64 * m) s.size).data.toList = s.data.toList.drop (64 * m) := by rw [str_extract, List.take_of_length_le (by simp)]
  have hW : (s.extract 0 (64 * m)).size = 64 * m := by simp; omega
  have hWd : (s.extract 0 (64 * m)).data.toList = s.data.toList.take (64 * m) := by rw [str_extract]; rfl
  have C1 := Lib.hid (fun W => initial_ok W)
  have C2 := Lib.hid (fun W => after_ok (l := iv) rfl (s.extract 0 (64 * m)) m hW (by omega) W)
  have C3 := Lib.hid (fun W => ending_ok (s.extract (64 * m) s.size) s.size (by omega) hs hE.symm W)
  have C4 := Lib.hid (fun W => after_bytes (l := blks iv (s.data.toList.take (64 * m)) m) (blks_length rfl _ _) (s.data.toList.drop (64 * m) ++ tailb s.size) (tb s.size) (by rw [List.length_append, tailb_length, List.length_drop, size_toList, ← tb_eq]; omega) (by unfold tb padz; omega) W)
  have C5 := Lib.hid (fun W => text_ok (l := blks (blks iv (s.data.toList.take (64 * m)) m) (s.data.toList.drop (64 * m) ++ tailb s.size) (tb s.size)) (blks_length (blks_length rfl _ _) _ _) W)
  have HR := Lib.hid (shaL_parts s.data.toList m (by rw [size_toList]; exact hm))
  rw [hWd] at C2
  rw [hEd] at C3
  clear hE hEd hW hWd hm
  go_enter Try.func10, Try.ntmps10
  go_upto_region 2 with fail
  rw [show (s.size : Int) - (s.size : Int) % 64 = ((64 * m : Nat) : Int) from by omega]
  have ht : (64 * (m : Int)).toNat = 64 * m := by omega
  have HB : Below w.heap.size w w.drew := (Below.refl _ _).drew
  go_region_with (first
    | (go_at_call 17; (refine (C1.out _).mono ?_); rintro e wi ⟨rfl, hb⟩; replace HB := HB.trans (hb.mono HB.size); clear hb)
    | (go_at_call 19; (refine (C3.out _).mono ?_); rintro e we ⟨rfl, hb⟩; replace HB := HB.trans (hb.mono HB.size); clear hb)
    | (go_at_call 20; (refine (C5.out _).mono ?_); rintro e wt ⟨rfl, hb⟩; replace HB := HB.trans (hb.mono HB.size); clear hb)
    | (go_at_call 18; (first | (with_reducible refine (C2.out _).mono ?_) | (with_reducible refine (C4.out _).mono ?_)); rintro e wa ⟨rfl, hb⟩; replace HB := HB.trans (hb.mono HB.size); clear hb))
  all_goals
    go_wp2
    go_ret
    exact ⟨ret_str (by rw [HR.out, size_toList]), HB⟩
end Go.Proofs.Ytgchfponmaangaa
