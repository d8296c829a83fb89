/-
  The law of dominolaw03.ModularRaises.
-/
import Derived.Test.YtppdolmeeiookaaGreatModX
import Derived.Test.YtppdolmeeiookaaGreatMR
import Derived.Test.YtppdolmeeiookaaGreatMY
namespace Go.Proofs.YtppdolmeeiookaaGreat
open Go.RowKit Num

set_option maxHeartbeats 2000000 in
set_option maxRecDepth 100000 in
/-- Too long: only the examples. -/
theorem rai_long (A B E M : ByteArray) (q : Bool) (w : World) (hA : A.size ≤ 9223372036854775807) (hB : B.size ≤ 9223372036854775807) (hE : E.size ≤ 9223372036854775807) (hM : M.size ≤ 9223372036854775807) (hr : (decide (A.size ≤ 24) && decide (B.size ≤ 24) && decide (E.size ≤ 16) && decide (M.size ≤ 8)) = false) :
    Calls Tryz.prog 4 #[.agg #[.string A, .string B, .bool q, .string E, .string M]] w (Made w (.bool true)) := by
  have HF := Lib.hid (fun W => few3_any A B E M q W hA hB hE hM false hr)
  have HW := Lib.hid awake3
  clear hA hB hE hM hr
  have HV := (Below.refl w.heap.size w).alloc (Nat.le_refl _) (.cells #[.string A, .string B, .bool q, .string E, .string M] 26)
  go_enter Tryz.func4, Tryz.ntmps4
  go_wp2_with fail
  refine (HF.out _).mono ?_
  rintro e u1 ⟨rfl, hb⟩
  replace HV := HV.trans (hb.mono HV.size)
  clear hb
  go_wp2_with fail
  refine (HW.out _).mono ?_
  rintro e ua ⟨rfl, hb⟩
  replace HV := HV.trans (hb.mono HV.size)
  go_wp2
  go_ret
  exact ⟨rfl, HV⟩

set_option maxHeartbeats 2000000 in
set_option maxRecDepth 100000 in
theorem rai_core (A B E M : ByteArray) (q : Bool) (w : World) (hA : A.size ≤ 9223372036854775807) (hB : B.size ≤ 9223372036854775807) (hE : E.size ≤ 9223372036854775807) (hM : M.size ≤ 9223372036854775807) (hr : (decide (A.size ≤ 24) && decide (B.size ≤ 24) && decide (E.size ≤ 16) && decide (M.size ≤ 8)) = true) (S1 S2 : ByteArray) (e1 e2 : Int)
    (C1 : ∀ W, Calls Tryz.prog 14 #[.string A, .string E, .string M] W (Made W (.tuple #[.string S1, .int .i64 e1])))
    (C2 : ∀ W, Calls Tryz.prog 15 #[.string A, .string E, .string M] W (Made W (.tuple #[.string S1, .int .i64 e1])))
    (C3 : ∀ W, Calls Tryz.prog 16 #[.string A, .agg #[.bool q, .string E], .string M] W (Made W (.tuple #[.string S2, .int .i64 e2])))
    (C4 : ∀ W, Calls Tryz.prog 17 #[.string A, .agg #[.bool q, .string E], .string M] W (Made W (.tuple #[.string S2, .int .i64 e2]))) :
    Calls Tryz.prog 4 #[.agg #[.string A, .string B, .bool q, .string E, .string M]] w (Made w (.bool true)) := by
  have HF := Lib.hid (fun W => few3_any A B E M q W hA hB hE hM true hr)
  have HW := Lib.hid awake3
  have H1 := Lib.hid C1
  have H2 := Lib.hid C2
  have H3 := Lib.hid C3
  have H4 := Lib.hid C4
  clear hA hB hE hM hr C1 C2 C3 C4
  have HV := (Below.refl w.heap.size w).alloc (Nat.le_refl _) (.cells #[.string A, .string B, .bool q, .string E, .string M] 26)
  have K := Bk.new w #[.string A, .string B, .bool q, .string E, .string M] 26
  go_enter Tryz.func4, Tryz.ntmps4
  go_wp2_with fail
  refine (HF.out _).mono ?_
  rintro e u1 ⟨rfl, hb⟩
  replace HV := HV.trans (hb.mono HV.size)
  replace K := K.below hb
  clear hb
  have c0 : u1.cell? ⟨w.heap.size, 0, none⟩ = some (.string A) := K.cell 0
  have c1 : u1.cell? ⟨w.heap.size, 1, none⟩ = some (.string B) := K.cell 1
  have c2 : u1.cell? ⟨w.heap.size, 2, none⟩ = some (.bool q) := K.cell 2
  have c3 : u1.cell? ⟨w.heap.size, 3, none⟩ = some (.string E) := K.cell 3
  have c4 : u1.cell? ⟨w.heap.size, 4, none⟩ = some (.string M) := K.cell 4
  have l0 := K.lt
  go_wp2_with fail
  refine (H1.out _).mono ?_
  rintro e u2 ⟨rfl, hb⟩
  replace HV := HV.trans (hb.mono HV.size)
  replace K := K.below hb
  clear hb
  clear c0 c1 c2 c3 c4 l0
  have c0 : u2.cell? ⟨w.heap.size, 0, none⟩ = some (.string A) := K.cell 0
  have c1 : u2.cell? ⟨w.heap.size, 1, none⟩ = some (.string B) := K.cell 1
  have c2 : u2.cell? ⟨w.heap.size, 2, none⟩ = some (.bool q) := K.cell 2
  have c3 : u2.cell? ⟨w.heap.size, 3, none⟩ = some (.string E) := K.cell 3
  have c4 : u2.cell? ⟨w.heap.size, 4, none⟩ = some (.string M) := K.cell 4
  have l0 := K.lt
  go_wp2_with fail
  refine (H2.out _).mono ?_
  rintro e u3 ⟨rfl, hb⟩
  replace HV := HV.trans (hb.mono HV.size)
  replace K := K.below hb
  clear hb
  clear c0 c1 c2 c3 c4 l0
  have c0 : u3.cell? ⟨w.heap.size, 0, none⟩ = some (.string A) := K.cell 0
  have c1 : u3.cell? ⟨w.heap.size, 1, none⟩ = some (.string B) := K.cell 1
  have c2 : u3.cell? ⟨w.heap.size, 2, none⟩ = some (.bool q) := K.cell 2
  have c3 : u3.cell? ⟨w.heap.size, 3, none⟩ = some (.string E) := K.cell 3
  have c4 : u3.cell? ⟨w.heap.size, 4, none⟩ = some (.string M) := K.cell 4
  have l0 := K.lt
  go_wp2_with fail
  refine (H3.out _).mono ?_
  rintro e u4 ⟨rfl, hb⟩
  replace HV := HV.trans (hb.mono HV.size)
  replace K := K.below hb
  clear hb
  clear c0 c1 c2 c3 c4 l0
  have c0 : u4.cell? ⟨w.heap.size, 0, none⟩ = some (.string A) := K.cell 0
  have c1 : u4.cell? ⟨w.heap.size, 1, none⟩ = some (.string B) := K.cell 1
  have c2 : u4.cell? ⟨w.heap.size, 2, none⟩ = some (.bool q) := K.cell 2
  have c3 : u4.cell? ⟨w.heap.size, 3, none⟩ = some (.string E) := K.cell 3
  have c4 : u4.cell? ⟨w.heap.size, 4, none⟩ = some (.string M) := K.cell 4
  have l0 := K.lt
  go_wp2_with fail
  refine (H4.out _).mono ?_
  rintro e u5 ⟨rfl, hb⟩
  replace HV := HV.trans (hb.mono HV.size)
  replace K := K.below hb
  clear hb
  clear c0 c1 c2 c3 c4 l0
  have c0 : u5.cell? ⟨w.heap.size, 0, none⟩ = some (.string A) := K.cell 0
  have c1 : u5.cell? ⟨w.heap.size, 1, none⟩ = some (.string B) := K.cell 1
  have c2 : u5.cell? ⟨w.heap.size, 2, none⟩ = some (.bool q) := K.cell 2
  have c3 : u5.cell? ⟨w.heap.size, 3, none⟩ = some (.string E) := K.cell 3
  have c4 : u5.cell? ⟨w.heap.size, 4, none⟩ = some (.string M) := K.cell 4
  have l0 := K.lt
  go_wp2_with fail
  refine (HW.out _).mono ?_
  rintro e u6 ⟨rfl, hb⟩
  replace HV := HV.trans (hb.mono HV.size)
  replace K := K.below hb
  clear hb
  clear c0 c1 c2 c3 c4 l0
  have c0 : u6.cell? ⟨w.heap.size, 0, none⟩ = some (.string A) := K.cell 0
  have c1 : u6.cell? ⟨w.heap.size, 1, none⟩ = some (.string B) := K.cell 1
  have c2 : u6.cell? ⟨w.heap.size, 2, none⟩ = some (.bool q) := K.cell 2
  have c3 : u6.cell? ⟨w.heap.size, 3, none⟩ = some (.string E) := K.cell 3
  have c4 : u6.cell? ⟨w.heap.size, 4, none⟩ = some (.string M) := K.cell 4
  have l0 := K.lt
  go_wp2_with fail
  go_ret
  exact ⟨rfl, HV⟩

theorem both_exp (A E M : ByteArray) (hA : A.size ≤ 9223372036854775807) (hE : E.size ≤ 9223372036854775807) (hM : M.size ≤ 9223372036854775807) (h8 : M.size ≤ 8) : ∃ (S : ByteArray) (e : Int),
    (∀ W, Calls Tryz.prog 14 #[.string A, .string E, .string M] W (Made W (.tuple #[.string S, .int .i64 e]))) ∧ (∀ W, Calls Tryz.prog 15 #[.string A, .string E, .string M] W (Made W (.tuple #[.string S, .int .i64 e]))) := by
  rcases hv : (validB A && validB E && validB M) with _ | _
  · exact ⟨_, _, mExp_err A E M false _ hA hE hM hv rfl (.inl rfl), rExp_err A E M false _ hA hE hM hv rfl (.inl rfl)⟩
  · rcases hem : M.toList.isEmpty with _ | _
    · simp only [Bool.and_eq_true] at hv
      obtain ⟨⟨v1, v2⟩, v3⟩ := hv
      obtain ⟨a, ta, rfl⟩ := bs_of_valid v1
      obtain ⟨k, tk, rfl⟩ := bs_of_valid v2
      obtain ⟨m, tm, rfl⟩ := bs_of_valid v3
      rw [bs_le] at h8
      rw [bs_isEmpty] at hem
      have h0 : m ≠ 0 := by simpa using hem
      exact ⟨_, _, fun W => mexp_ok a k m W ta tk h0 tm, fun W => rExp_ok a k m W ta tk h0 h8⟩
    · exact ⟨_, _, mExp_err A E M true true hA hE hM hv hem (.inr rfl), rExp_err A E M true true hA hE hM hv hem (.inr rfl)⟩
theorem both_power (A E M : ByteArray) (q : Bool) (hA : A.size ≤ 9223372036854775807) (hE : E.size ≤ 9223372036854775807) (hM : M.size ≤ 9223372036854775807) (h24 : A.size ≤ 24) (h8 : M.size ≤ 8) : ∃ (S : ByteArray) (e : Int),
    (∀ W, Calls Tryz.prog 16 #[.string A, .agg #[.bool q, .string E], .string M] W (Made W (.tuple #[.string S, .int .i64 e]))) ∧ (∀ W, Calls Tryz.prog 17 #[.string A, .agg #[.bool q, .string E], .string M] W (Made W (.tuple #[.string S, .int .i64 e]))) := by
  rcases hv : (validB A && vI q E) with _ | _
  · exact ⟨_, _, fun W => mPower_bad1 A E M q _ _ W hA hE rfl rfl hv, fun W => rPower_bad1 A E M q _ _ W hA hE rfl rfl hv⟩
  · simp only [Bool.and_eq_true] at hv
    obtain ⟨v1, v2⟩ := hv
    rcases hvm : validB M with _ | _
    · exact ⟨_, _, fun W => mPower_bad2 A E M q _ false W hA hE hM v1 v2 hvm rfl (.inl rfl), fun W => rPower_bad2 A E M q _ false W hA hE hM v1 v2 hvm rfl (.inl rfl)⟩
    · rcases hem : M.toList.isEmpty with _ | _
      · have v3 : validB E = true := by
          unfold vI at v2
          revert v2
          cases validB E <;> simp
        obtain ⟨a, ta, rfl⟩ := bs_of_valid v1
        obtain ⟨k, tk, rfl⟩ := bs_of_valid v3
        obtain ⟨m, tm, rfl⟩ := bs_of_valid hvm
        rw [bs_le] at h8 h24
        rw [bs_isEmpty] at hem
        have h0 : m ≠ 0 := by simpa using hem
        have a60 : a < 256 ^ 60 := Nat.lt_of_lt_of_le h24 (Nat.pow_le_pow_right (by decide) (by decide))
        have m60 : m < 256 ^ 60 := Nat.lt_of_lt_of_le h8 (Nat.pow_le_pow_right (by decide) (by decide))
        cases q with
        | false => exact ⟨_, _, fun W => mpower_pos a k m W ta tk h0 tm, fun W => rpower_pos a k m W ta tk h0 h8⟩
        | true =>
          have hk : k ≠ 0 := by
            rintro rfl
            unfold vI at v2
            rw [bs_isEmpty] at v2
            simp at v2
          by_cases hg : Nat.gcd a m = 1
          · obtain ⟨X, hX, hX1, _⟩ := inv_ex h0 hg
            exact ⟨_, _, fun W => mpower_inv a k m X W ta (Nat.lt_trans hX tm) tk hk h0 tm (fun W => minverse_ok a m X W a60 m60 h0 hg hX hX1), fun W => rpower_inv a k m X W ta tk h0 h8 hk (Nat.lt_trans hX tm) (fun W => rInverse_ok a m X W ta h0 h8 hg hX hX1)⟩
          · exact ⟨_, _, fun W => mpower_err a k m 9 W ta tk hk (by decide) (fun W => minverse_none a m W a60 m60 h0 hg), fun W => rpower_err a k m 9 W ta tk h0 h8 hk (by decide) (fun W => rInverse_none a m W ta h0 h8 hg)⟩
      · exact ⟨_, _, fun W => mPower_bad2 A E M q true true W hA hE hM v1 v2 hvm hem (.inr rfl), fun W => rPower_bad2 A E M q true true W hA hE hM v1 v2 hvm hem (.inr rfl)⟩
theorem law_mrai (A B E M : ByteArray) (q : Bool) (w : World) (hA : A.size ≤ 9223372036854775807) (hB : B.size ≤ 9223372036854775807) (hE : E.size ≤ 9223372036854775807) (hM : M.size ≤ 9223372036854775807) :
    Calls Tryz.prog 4 #[.agg #[.string A, .string B, .bool q, .string E, .string M]] w (Made w (.bool true)) := by
  rcases hr : (decide (A.size ≤ 24) && decide (B.size ≤ 24) && decide (E.size ≤ 16) && decide (M.size ≤ 8)) with _ | _
  · exact rai_long A B E M q w hA hB hE hM hr
  · have hr' := hr
    simp only [Bool.and_eq_true, decide_eq_true_eq] at hr'
    obtain ⟨⟨⟨r1, r2⟩, r3⟩, r4⟩ := hr'
    obtain ⟨S1, e1, a1, a2⟩ := both_exp A E M hA hE hM r4
    obtain ⟨S2, e2, a3, a4⟩ := both_power A E M q hA hE hM r1 r4
    exact rai_core A B E M q w hA hB hE hM hr S1 S2 e1 e2 a1 a2 a3 a4
end Go.Proofs.YtppdolmeeiookaaGreat
