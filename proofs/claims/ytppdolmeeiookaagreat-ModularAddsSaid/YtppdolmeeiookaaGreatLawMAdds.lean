/-
  The law of dominolaw03.ModularAdds.
-/
import Derived.Test.YtppdolmeeiookaaGreatModX
import Derived.Test.YtppdolmeeiookaaGreatMR
import Derived.Test.YtppdolmeeiookaaGreatMY
namespace Go.Proofs.YtppdolmeeiookaaGreat
open Go.RowKit Num

set_option maxHeartbeats 2000000 in
set_option maxRecDepth 100000 in
/-- Too long: only the examples. -/
theorem adds_long (A B E M : ByteArray) (q : Bool) (w : World) (hA : A.size ≤ 9223372036854775807) (hB : B.size ≤ 9223372036854775807) (hE : E.size ≤ 9223372036854775807) (hM : M.size ≤ 9223372036854775807) (hr : (decide (A.size ≤ 24) && decide (B.size ≤ 24) && decide (E.size ≤ 16) && decide (M.size ≤ 8)) = false) :
    Calls Tryz.prog 3 #[.agg #[.string A, .string B, .bool q, .string E, .string M]] w (Made w (.bool true)) := by
  have HF := Lib.hid (fun W => few3_any A B E M q W hA hB hE hM false hr)
  have HW := Lib.hid awake3
  clear hA hB hE hM hr
  have HV := (Below.refl w.heap.size w).alloc (Nat.le_refl _) (.cells #[.string A, .string B, .bool q, .string E, .string M] 26)
  go_enter Tryz.func3, Tryz.ntmps3
  go_wp2_with fail
  refine (HF.out _).mono ?_
  rintro e u1 ⟨rfl, hb⟩
  replace HV := HV.trans (hb.mono HV.size)
  clear hb
  go_wp2_with fail
  refine (HW.out _).mono ?_
  rintro e ua ⟨rfl, hb⟩
  replace HV := HV.trans (hb.mono HV.size)
  go_wp2
  go_ret
  exact ⟨rfl, HV⟩

set_option maxHeartbeats 2000000 in
set_option maxRecDepth 100000 in
theorem adds_core (A B E M : ByteArray) (q : Bool) (w : World) (hA : A.size ≤ 9223372036854775807) (hB : B.size ≤ 9223372036854775807) (hE : E.size ≤ 9223372036854775807) (hM : M.size ≤ 9223372036854775807) (hr : (decide (A.size ≤ 24) && decide (B.size ≤ 24) && decide (E.size ≤ 16) && decide (M.size ≤ 8)) = true) (S1 S2 S3 : ByteArray) (e1 e2 e3 : Int)
    (C1 : ∀ W, Calls Tryz.prog 8 #[.string A, .string B, .string M] W (Made W (.tuple #[.string S1, .int .i64 e1])))
    (C2 : ∀ W, Calls Tryz.prog 9 #[.string A, .string B, .string M] W (Made W (.tuple #[.string S1, .int .i64 e1])))
    (C3 : ∀ W, Calls Tryz.prog 10 #[.string A, .string B, .string M] W (Made W (.tuple #[.string S2, .int .i64 e2])))
    (C4 : ∀ W, Calls Tryz.prog 11 #[.string A, .string B, .string M] W (Made W (.tuple #[.string S2, .int .i64 e2])))
    (C5 : ∀ W, Calls Tryz.prog 12 #[.string A, .string B, .string M] W (Made W (.tuple #[.string S3, .int .i64 e3])))
    (C6 : ∀ W, Calls Tryz.prog 13 #[.string A, .string B, .string M] W (Made W (.tuple #[.string S3, .int .i64 e3]))) :
    Calls Tryz.prog 3 #[.agg #[.string A, .string B, .bool q, .string E, .string M]] w (Made w (.bool true)) := by
  have HF := Lib.hid (fun W => few3_any A B E M q W hA hB hE hM true hr)
  have HW := Lib.hid awake3
  have H1 := Lib.hid C1
  have H2 := Lib.hid C2
  have H3 := Lib.hid C3
  have H4 := Lib.hid C4
  have H5 := Lib.hid C5
  have H6 := Lib.hid C6
  clear hA hB hE hM hr C1 C2 C3 C4 C5 C6
  have HV := (Below.refl w.heap.size w).alloc (Nat.le_refl _) (.cells #[.string A, .string B, .bool q, .string E, .string M] 26)
  have K := Bk.new w #[.string A, .string B, .bool q, .string E, .string M] 26
  go_enter Tryz.func3, Tryz.ntmps3
  go_wp2_with fail
  refine (HF.out _).mono ?_
  rintro e u1 ⟨rfl, hb⟩
  replace HV := HV.trans (hb.mono HV.size)
  replace K := K.below hb
  clear hb
  have c0 : u1.cell? ⟨w.heap.size, 0, none⟩ = some (.string A) := K.cell 0
  have c1 : u1.cell? ⟨w.heap.size, 1, none⟩ = some (.string B) := K.cell 1
  have c2 : u1.cell? ⟨w.heap.size, 2, none⟩ = some (.bool q) := K.cell 2
  have c3 : u1.cell? ⟨w.heap.size, 3, none⟩ = some (.string E) := K.cell 3
  have c4 : u1.cell? ⟨w.heap.size, 4, none⟩ = some (.string M) := K.cell 4
  have l0 := K.lt
  go_wp2_with fail
  refine (H1.out _).mono ?_
  rintro e u2 ⟨rfl, hb⟩
  replace HV := HV.trans (hb.mono HV.size)
  replace K := K.below hb
  clear hb
  clear c0 c1 c2 c3 c4 l0
  have c0 : u2.cell? ⟨w.heap.size, 0, none⟩ = some (.string A) := K.cell 0
  have c1 : u2.cell? ⟨w.heap.size, 1, none⟩ = some (.string B) := K.cell 1
  have c2 : u2.cell? ⟨w.heap.size, 2, none⟩ = some (.bool q) := K.cell 2
  have c3 : u2.cell? ⟨w.heap.size, 3, none⟩ = some (.string E) := K.cell 3
  have c4 : u2.cell? ⟨w.heap.size, 4, none⟩ = some (.string M) := K.cell 4
  have l0 := K.lt
  go_wp2_with fail
  refine (H2.out _).mono ?_
  rintro e u3 ⟨rfl, hb⟩
  replace HV := HV.trans (hb.mono HV.size)
  replace K := K.below hb
  clear hb
  clear c0 c1 c2 c3 c4 l0
  have c0 : u3.cell? ⟨w.heap.size, 0, none⟩ = some (.string A) := K.cell 0
  have c1 : u3.cell? ⟨w.heap.size, 1, none⟩ = some (.string B) := K.cell 1
  have c2 : u3.cell? ⟨w.heap.size, 2, none⟩ = some (.bool q) := K.cell 2
  have c3 : u3.cell? ⟨w.heap.size, 3, none⟩ = some (.string E) := K.cell 3
  have c4 : u3.cell? ⟨w.heap.size, 4, none⟩ = some (.string M) := K.cell 4
  have l0 := K.lt
  go_wp2_with fail
  refine (H3.out _).mono ?_
  rintro e u4 ⟨rfl, hb⟩
  replace HV := HV.trans (hb.mono HV.size)
  replace K := K.below hb
  clear hb
  clear c0 c1 c2 c3 c4 l0
  have c0 : u4.cell? ⟨w.heap.size, 0, none⟩ = some (.string A) := K.cell 0
  have c1 : u4.cell? ⟨w.heap.size, 1, none⟩ = some (.string B) := K.cell 1
  have c2 : u4.cell? ⟨w.heap.size, 2, none⟩ = some (.bool q) := K.cell 2
  have c3 : u4.cell? ⟨w.heap.size, 3, none⟩ = some (.string E) := K.cell 3
  have c4 : u4.cell? ⟨w.heap.size, 4, none⟩ = some (.string M) := K.cell 4
  have l0 := K.lt
  go_wp2_with fail
  refine (H4.out _).mono ?_
  rintro e u5 ⟨rfl, hb⟩
  replace HV := HV.trans (hb.mono HV.size)
  replace K := K.below hb
  clear hb
  clear c0 c1 c2 c3 c4 l0
  have c0 : u5.cell? ⟨w.heap.size, 0, none⟩ = some (.string A) := K.cell 0
  have c1 : u5.cell? ⟨w.heap.size, 1, none⟩ = some (.string B) := K.cell 1
  have c2 : u5.cell? ⟨w.heap.size, 2, none⟩ = some (.bool q) := K.cell 2
  have c3 : u5.cell? ⟨w.heap.size, 3, none⟩ = some (.string E) := K.cell 3
  have c4 : u5.cell? ⟨w.heap.size, 4, none⟩ = some (.string M) := K.cell 4
  have l0 := K.lt
  go_wp2_with fail
  refine (H5.out _).mono ?_
  rintro e u6 ⟨rfl, hb⟩
  replace HV := HV.trans (hb.mono HV.size)
  replace K := K.below hb
  clear hb
  clear c0 c1 c2 c3 c4 l0
  have c0 : u6.cell? ⟨w.heap.size, 0, none⟩ = some (.string A) := K.cell 0
  have c1 : u6.cell? ⟨w.heap.size, 1, none⟩ = some (.string B) := K.cell 1
  have c2 : u6.cell? ⟨w.heap.size, 2, none⟩ = some (.bool q) := K.cell 2
  have c3 : u6.cell? ⟨w.heap.size, 3, none⟩ = some (.string E) := K.cell 3
  have c4 : u6.cell? ⟨w.heap.size, 4, none⟩ = some (.string M) := K.cell 4
  have l0 := K.lt
  go_wp2_with fail
  refine (H6.out _).mono ?_
  rintro e u7 ⟨rfl, hb⟩
  replace HV := HV.trans (hb.mono HV.size)
  replace K := K.below hb
  clear hb
  clear c0 c1 c2 c3 c4 l0
  have c0 : u7.cell? ⟨w.heap.size, 0, none⟩ = some (.string A) := K.cell 0
  have c1 : u7.cell? ⟨w.heap.size, 1, none⟩ = some (.string B) := K.cell 1
  have c2 : u7.cell? ⟨w.heap.size, 2, none⟩ = some (.bool q) := K.cell 2
  have c3 : u7.cell? ⟨w.heap.size, 3, none⟩ = some (.string E) := K.cell 3
  have c4 : u7.cell? ⟨w.heap.size, 4, none⟩ = some (.string M) := K.cell 4
  have l0 := K.lt
  go_wp2_with fail
  refine (HW.out _).mono ?_
  rintro e u8 ⟨rfl, hb⟩
  replace HV := HV.trans (hb.mono HV.size)
  replace K := K.below hb
  clear hb
  clear c0 c1 c2 c3 c4 l0
  have c0 : u8.cell? ⟨w.heap.size, 0, none⟩ = some (.string A) := K.cell 0
  have c1 : u8.cell? ⟨w.heap.size, 1, none⟩ = some (.string B) := K.cell 1
  have c2 : u8.cell? ⟨w.heap.size, 2, none⟩ = some (.bool q) := K.cell 2
  have c3 : u8.cell? ⟨w.heap.size, 3, none⟩ = some (.string E) := K.cell 3
  have c4 : u8.cell? ⟨w.heap.size, 4, none⟩ = some (.string M) := K.cell 4
  have l0 := K.lt
  go_wp2_with fail
  go_ret
  exact ⟨rfl, HV⟩

theorem law_madds (A B E M : ByteArray) (q : Bool) (w : World) (hA : A.size ≤ 9223372036854775807) (hB : B.size ≤ 9223372036854775807) (hE : E.size ≤ 9223372036854775807) (hM : M.size ≤ 9223372036854775807) :
    Calls Tryz.prog 3 #[.agg #[.string A, .string B, .bool q, .string E, .string M]] w (Made w (.bool true)) := by
  rcases hr : (decide (A.size ≤ 24) && decide (B.size ≤ 24) && decide (E.size ≤ 16) && decide (M.size ≤ 8)) with _ | _
  · exact adds_long A B E M q w hA hB hE hM hr
  · rcases hv : (validB A && validB B && validB M) with _ | _
    · exact adds_core A B E M q w hA hB hE hM hr ⟨#[]⟩ ⟨#[]⟩ ⟨#[]⟩ 3 3 3 (mAdd_err A B M false _ hA hB hM hv rfl (.inl rfl)) (rAdd_err A B M false _ hA hB hM hv rfl (.inl rfl)) (mSub_err A B M false _ hA hB hM hv rfl (.inl rfl)) (rSub_err A B M false _ hA hB hM hv rfl (.inl rfl)) (mMul_err A B M false _ hA hB hM hv rfl (.inl rfl)) (rMul_err A B M false _ hA hB hM hv rfl (.inl rfl))
    · rcases hem : M.toList.isEmpty with _ | _
      · have hr' := hr
        simp only [Bool.and_eq_true, decide_eq_true_eq] at hr' hv
        obtain ⟨⟨⟨r1, r2⟩, r3⟩, r4⟩ := hr'
        obtain ⟨⟨v1, v2⟩, v3⟩ := hv
        obtain ⟨a, ta, rfl⟩ := bs_of_valid v1
        obtain ⟨b, tb, rfl⟩ := bs_of_valid v2
        obtain ⟨m, tm, rfl⟩ := bs_of_valid v3
        rw [bs_le] at r4
        rw [bs_isEmpty] at hem
        have h0 : m ≠ 0 := by simpa using hem
        exact adds_core _ _ E _ q w hA hB hE hM hr _ _ _ 0 0 0 (fun W => madd_ok a b m W ta tb h0 tm) (fun W => rAdd_ok a b m W ta tb h0 r4) (fun W => msub_ok a b m W ta tb h0 tm) (fun W => rSub_ok a b m W ta tb h0 r4) (fun W => mmul_ok a b m W ta tb h0 tm) (fun W => rMul_ok a b m W ta tb h0 r4)
      · exact adds_core A B E M q w hA hB hE hM hr ⟨#[]⟩ ⟨#[]⟩ ⟨#[]⟩ 11 11 11 (mAdd_err A B M true true hA hB hM hv hem (.inr rfl)) (rAdd_err A B M true true hA hB hM hv hem (.inr rfl)) (mSub_err A B M true true hA hB hM hv hem (.inr rfl)) (rSub_err A B M true true hA hB hM hv hem (.inr rfl)) (mMul_err A B M true true hA hB hM hv hem (.inr rfl)) (rMul_err A B M true true hA hB hM hv hem (.inr rfl))
end Go.Proofs.YtppdolmeeiookaaGreat
