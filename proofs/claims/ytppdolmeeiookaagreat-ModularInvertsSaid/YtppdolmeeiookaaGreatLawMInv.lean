/-
  The law of dominolaw03.ModularInverts.
-/
import Derived.Test.YtppdolmeeiookaaGreatModX
import Derived.Test.YtppdolmeeiookaaGreatMR
import Derived.Test.YtppdolmeeiookaaGreatMY
namespace Go.Proofs.YtppdolmeeiookaaGreat
open Go.RowKit Num

set_option maxHeartbeats 2000000 in
set_option maxRecDepth 100000 in
/-- Too long: only the examples. -/
theorem inv_long (A B E M : ByteArray) (q : Bool) (w : World) (hA : A.size ≤ 9223372036854775807) (hB : B.size ≤ 9223372036854775807) (hE : E.size ≤ 9223372036854775807) (hM : M.size ≤ 9223372036854775807) (hr : (decide (A.size ≤ 24) && decide (B.size ≤ 24) && decide (E.size ≤ 16) && decide (M.size ≤ 8)) = false) :
    Calls Tryz.prog 5 #[.agg #[.string A, .string B, .bool q, .string E, .string M]] w (Made w (.bool true)) := by
  have HF := Lib.hid (fun W => few3_any A B E M q W hA hB hE hM false hr)
  have HW := Lib.hid awake3
  clear hA hB hE hM hr
  have HV := (Below.refl w.heap.size w).alloc (Nat.le_refl _) (.cells #[.string A, .string B, .bool q, .string E, .string M] 26)
  go_enter Tryz.func5, Tryz.ntmps5
  go_wp2_with fail
  refine (HF.out _).mono ?_
  rintro e u1 ⟨rfl, hb⟩
  replace HV := HV.trans (hb.mono HV.size)
  clear hb
  go_wp2_with fail
  refine (HW.out _).mono ?_
  rintro e ua ⟨rfl, hb⟩
  replace HV := HV.trans (hb.mono HV.size)
  go_wp2
  go_ret
  exact ⟨rfl, HV⟩

set_option maxHeartbeats 2000000 in
set_option maxRecDepth 100000 in
theorem inv_bad_core (A B E M : ByteArray) (q : Bool) (w : World) (hA : A.size ≤ 9223372036854775807) (hB : B.size ≤ 9223372036854775807) (hE : E.size ≤ 9223372036854775807) (hM : M.size ≤ 9223372036854775807) (hr : (decide (A.size ≤ 24) && decide (B.size ≤ 24) && decide (E.size ≤ 16) && decide (M.size ≤ 8)) = true) (S1 : ByteArray) (e1 : Int) (he : e1 ≠ 0)
    (C1 : ∀ W, Calls Tryz.prog 18 #[.string A, .string M] W (Made W (.tuple #[.string S1, .int .i64 e1])))
    (C2 : ∀ W, Calls Tryz.prog 19 #[.string A, .string M] W (Made W (.tuple #[.string S1, .int .i64 e1]))) :
    Calls Tryz.prog 5 #[.agg #[.string A, .string B, .bool q, .string E, .string M]] w (Made w (.bool true)) := by
  have HF := Lib.hid (fun W => few3_any A B E M q W hA hB hE hM true hr)
  have HW := Lib.hid awake3
  have H1 := Lib.hid C1
  have H2 := Lib.hid C2
  clear hA hB hE hM hr C1 C2
  have HV := (Below.refl w.heap.size w).alloc (Nat.le_refl _) (.cells #[.string A, .string B, .bool q, .string E, .string M] 26)
  have K := Bk.new w #[.string A, .string B, .bool q, .string E, .string M] 26
  go_enter Tryz.func5, Tryz.ntmps5
  go_wp2_with fail
  refine (HF.out _).mono ?_
  rintro e u1 ⟨rfl, hb⟩
  replace HV := HV.trans (hb.mono HV.size)
  replace K := K.below hb
  clear hb
  have c0 : u1.cell? ⟨w.heap.size, 0, none⟩ = some (.string A) := K.cell 0
  have c1 : u1.cell? ⟨w.heap.size, 1, none⟩ = some (.string B) := K.cell 1
  have c2 : u1.cell? ⟨w.heap.size, 2, none⟩ = some (.bool q) := K.cell 2
  have c3 : u1.cell? ⟨w.heap.size, 3, none⟩ = some (.string E) := K.cell 3
  have c4 : u1.cell? ⟨w.heap.size, 4, none⟩ = some (.string M) := K.cell 4
  have l0 := K.lt
  go_wp2_with fail
  refine (H1.out _).mono ?_
  rintro e u2 ⟨rfl, hb⟩
  replace HV := HV.trans (hb.mono HV.size)
  replace K := K.below hb
  clear hb
  clear c0 c1 c2 c3 c4 l0
  have c0 : u2.cell? ⟨w.heap.size, 0, none⟩ = some (.string A) := K.cell 0
  have c1 : u2.cell? ⟨w.heap.size, 1, none⟩ = some (.string B) := K.cell 1
  have c2 : u2.cell? ⟨w.heap.size, 2, none⟩ = some (.bool q) := K.cell 2
  have c3 : u2.cell? ⟨w.heap.size, 3, none⟩ = some (.string E) := K.cell 3
  have c4 : u2.cell? ⟨w.heap.size, 4, none⟩ = some (.string M) := K.cell 4
  have l0 := K.lt
  go_wp2_with fail
  refine (H2.out _).mono ?_
  rintro e u3 ⟨rfl, hb⟩
  replace HV := HV.trans (hb.mono HV.size)
  replace K := K.below hb
  clear hb
  clear c0 c1 c2 c3 c4 l0
  have c0 : u3.cell? ⟨w.heap.size, 0, none⟩ = some (.string A) := K.cell 0
  have c1 : u3.cell? ⟨w.heap.size, 1, none⟩ = some (.string B) := K.cell 1
  have c2 : u3.cell? ⟨w.heap.size, 2, none⟩ = some (.bool q) := K.cell 2
  have c3 : u3.cell? ⟨w.heap.size, 3, none⟩ = some (.string E) := K.cell 3
  have c4 : u3.cell? ⟨w.heap.size, 4, none⟩ = some (.string M) := K.cell 4
  have l0 := K.lt
  go_wp2_with fail
  refine (HW.out _).mono ?_
  rintro e u4 ⟨rfl, hb⟩
  replace HV := HV.trans (hb.mono HV.size)
  replace K := K.below hb
  clear hb
  clear c0 c1 c2 c3 c4 l0
  have c0 : u4.cell? ⟨w.heap.size, 0, none⟩ = some (.string A) := K.cell 0
  have c1 : u4.cell? ⟨w.heap.size, 1, none⟩ = some (.string B) := K.cell 1
  have c2 : u4.cell? ⟨w.heap.size, 2, none⟩ = some (.bool q) := K.cell 2
  have c3 : u4.cell? ⟨w.heap.size, 3, none⟩ = some (.string E) := K.cell 3
  have c4 : u4.cell? ⟨w.heap.size, 4, none⟩ = some (.string M) := K.cell 4
  have l0 := K.lt
  go_wp2_with fail
  go_ret
  exact ⟨rfl, HV⟩

theorem sm_below {w w' w'' : World} {g : Nat} {s0 s4 : Value} {cs : Array Value} {t : TypeId} (h0 : cs[0]? = some s0) (h4 : cs[4]? = some s4) (h : w'.cell? ⟨g, 0, none⟩ = some s0 ∧ w'.cell? ⟨g, 4, none⟩ = some s4 ∧ Hid (Below w.heap.size w w' ∧ Bk w' g cs t)) (hb : Below w'.heap.size w' w'') :
    w''.cell? ⟨g, 0, none⟩ = some s0 ∧ w''.cell? ⟨g, 4, none⟩ = some s4 ∧ Hid (Below w.heap.size w w'' ∧ Bk w'' g cs t) := by
  obtain ⟨h1, h2⟩ := h.2.2.out
  have K := h2.below hb
  exact ⟨(K.cell 0).trans h0, (K.cell 4).trans h4, Lib.hid ⟨h1.trans (hb.mono h1.size), K⟩⟩

set_option maxHeartbeats 4000000 in
set_option maxRecDepth 100000 in
theorem inv_good (A B E M : ByteArray) (q : Bool) (w : World) (hA : A.size ≤ 9223372036854775807) (hB : B.size ≤ 9223372036854775807) (hE : E.size ≤ 9223372036854775807) (hM : M.size ≤ 9223372036854775807) (hr : (decide (A.size ≤ 24) && decide (B.size ≤ 24) && decide (E.size ≤ 16) && decide (M.size ≤ 8)) = true) (X R O : ByteArray)
    (C1 : ∀ W, Calls Tryz.prog 18 #[.string A, .string M] W (Made W (.tuple #[.string X, .int .i64 0])))
    (C2 : ∀ W, Calls Tryz.prog 19 #[.string A, .string M] W (Made W (.tuple #[.string X, .int .i64 0])))
    (C3 : ∀ W, Calls Tryz.prog 13 #[.string A, .string X, .string M] W (Made W (.tuple #[.string O, .int .i64 0])))
    (C4 : ∀ W, Calls Tryz.prog 18 #[.string X, .string M] W (Made W (.tuple #[.string R, .int .i64 0])))
    (C5 : ∀ W, Calls Tryz.prog 20 #[.string (bs 1), .string M] W (Made W (.string O)))
    (C6 : ∀ W, Calls Tryz.prog 20 #[.string A, .string M] W (Made W (.string R))) :
    Calls Tryz.prog 5 #[.agg #[.string A, .string B, .bool q, .string E, .string M]] w (Made w (.bool true)) := by
  have HF := Lib.hid (fun W => few3_any A B E M q W hA hB hE hM true hr)
  have HW := Lib.hid awake3
  have HN : Hid (∀ W, Calls Tryz.prog 21 #[.int .u64 1] W (Made W (.string (bs 1)))) := Lib.hid (fun W => num3_lit 1 (by decide) (by decide) W)
  have H1 := Lib.hid C1
  have H2 := Lib.hid C2
  have H3 := Lib.hid C3
  have H4 := Lib.hid C4
  have H5 := Lib.hid C5
  have H6 := Lib.hid C6
  clear hA hB hE hM hr C1 C2 C3 C4 C5 C6
  have HV := (Below.refl w.heap.size w).alloc (Nat.le_refl _) (.cells #[.string A, .string B, .bool q, .string E, .string M] 26)
  have K := Bk.new w #[.string A, .string B, .bool q, .string E, .string M] 26
  go_enter Tryz.func5, Tryz.ntmps5
  go_wp2_with fail
  refine (HF.out _).mono ?_
  rintro e u5 ⟨rfl, hb⟩
  replace HV := HV.trans (hb.mono HV.size)
  replace K := K.below hb
  clear hb
  have c0 : u5.cell? ⟨w.heap.size, 0, none⟩ = some (.string A) := K.cell 0
  have c1 : u5.cell? ⟨w.heap.size, 1, none⟩ = some (.string B) := K.cell 1
  have c2 : u5.cell? ⟨w.heap.size, 2, none⟩ = some (.bool q) := K.cell 2
  have c3 : u5.cell? ⟨w.heap.size, 3, none⟩ = some (.string E) := K.cell 3
  have c4 : u5.cell? ⟨w.heap.size, 4, none⟩ = some (.string M) := K.cell 4
  have l0 := K.lt
  go_wp2_with fail
  refine (H1.out _).mono ?_
  rintro e u6 ⟨rfl, hb⟩
  replace HV := HV.trans (hb.mono HV.size)
  replace K := K.below hb
  clear hb
  clear c0 c1 c2 c3 c4 l0
  have c0 : u6.cell? ⟨w.heap.size, 0, none⟩ = some (.string A) := K.cell 0
  have c1 : u6.cell? ⟨w.heap.size, 1, none⟩ = some (.string B) := K.cell 1
  have c2 : u6.cell? ⟨w.heap.size, 2, none⟩ = some (.bool q) := K.cell 2
  have c3 : u6.cell? ⟨w.heap.size, 3, none⟩ = some (.string E) := K.cell 3
  have c4 : u6.cell? ⟨w.heap.size, 4, none⟩ = some (.string M) := K.cell 4
  have l0 := K.lt
  go_wp2_with fail
  refine (H2.out _).mono ?_
  rintro e u7 ⟨rfl, hb⟩
  replace HV := HV.trans (hb.mono HV.size)
  replace K := K.below hb
  clear hb
  clear c0 c1 c2 c3 c4 l0
  have c0 : u7.cell? ⟨w.heap.size, 0, none⟩ = some (.string A) := K.cell 0
  have c1 : u7.cell? ⟨w.heap.size, 1, none⟩ = some (.string B) := K.cell 1
  have c2 : u7.cell? ⟨w.heap.size, 2, none⟩ = some (.bool q) := K.cell 2
  have c3 : u7.cell? ⟨w.heap.size, 3, none⟩ = some (.string E) := K.cell 3
  have c4 : u7.cell? ⟨w.heap.size, 4, none⟩ = some (.string M) := K.cell 4
  have l0 := K.lt
  go_wp2_with fail
  refine (H3.out _).mono ?_
  rintro e u8 ⟨rfl, hb⟩
  replace HV := HV.trans (hb.mono HV.size)
  replace K := K.below hb
  clear hb
  clear c0 c1 c2 c3 c4 l0
  have c0 : u8.cell? ⟨w.heap.size, 0, none⟩ = some (.string A) := K.cell 0
  have c1 : u8.cell? ⟨w.heap.size, 1, none⟩ = some (.string B) := K.cell 1
  have c2 : u8.cell? ⟨w.heap.size, 2, none⟩ = some (.bool q) := K.cell 2
  have c3 : u8.cell? ⟨w.heap.size, 3, none⟩ = some (.string E) := K.cell 3
  have c4 : u8.cell? ⟨w.heap.size, 4, none⟩ = some (.string M) := K.cell 4
  have l0 := K.lt
  go_wp2_with fail
  refine (H4.out _).mono ?_
  rintro e u9 ⟨rfl, hb⟩
  replace HV := HV.trans (hb.mono HV.size)
  replace K := K.below hb
  clear hb
  clear c0 c1 c2 c3 c4 l0
  have c0 : u9.cell? ⟨w.heap.size, 0, none⟩ = some (.string A) := K.cell 0
  have c1 : u9.cell? ⟨w.heap.size, 1, none⟩ = some (.string B) := K.cell 1
  have c2 : u9.cell? ⟨w.heap.size, 2, none⟩ = some (.bool q) := K.cell 2
  have c3 : u9.cell? ⟨w.heap.size, 3, none⟩ = some (.string E) := K.cell 3
  have c4 : u9.cell? ⟨w.heap.size, 4, none⟩ = some (.string M) := K.cell 4
  have l0 := K.lt
  go_wp2_with fail
  go_region_held3 (fun w' => w'.cell? ⟨w.heap.size, 0, none⟩ = some (.string A) ∧ w'.cell? ⟨w.heap.size, 4, none⟩ = some (.string M) ∧ Hid (Below w.heap.size w w' ∧ Bk w' w.heap.size #[.string A, .string B, .bool q, .string E, .string M] 26)) (first | assumption | exact ⟨K.drew.cell 0, K.drew.cell 4, Lib.hid ⟨HV.drew, K.drew⟩⟩) (first | (go_at_call 7; have hq := ‹_ ∧ _›; (with_reducible refine (HW.out _).mono ?_); rintro e v0 ⟨rfl, hb⟩; have hSv0 : v0.cell? ⟨w.heap.size, 0, none⟩ = some (.string A) ∧ v0.cell? ⟨w.heap.size, 4, none⟩ = some (.string M) ∧ Hid (Below w.heap.size w v0 ∧ Bk v0 w.heap.size #[.string A, .string B, .bool q, .string E, .string M] 26) := sm_below rfl rfl hq hb; clear hq hb) | (go_at_call 21; have hq := ‹_ ∧ _›; (with_reducible refine (HN.out _).mono ?_); rintro e v1 ⟨rfl, hb⟩; have hSv1 : v1.cell? ⟨w.heap.size, 0, none⟩ = some (.string A) ∧ v1.cell? ⟨w.heap.size, 4, none⟩ = some (.string M) ∧ Hid (Below w.heap.size w v1 ∧ Bk v1 w.heap.size #[.string A, .string B, .bool q, .string E, .string M] 26) := sm_below rfl rfl hq hb; clear hq hb) | (go_at_call 20; have hq := ‹_ ∧ _›; (with_reducible refine (H5.out _).mono ?_); rintro e v2 ⟨rfl, hb⟩; have hSv2 : v2.cell? ⟨w.heap.size, 0, none⟩ = some (.string A) ∧ v2.cell? ⟨w.heap.size, 4, none⟩ = some (.string M) ∧ Hid (Below w.heap.size w v2 ∧ Bk v2 w.heap.size #[.string A, .string B, .bool q, .string E, .string M] 26) := sm_below rfl rfl hq hb; clear hq hb) | (go_at_call 20; have hq := ‹_ ∧ _›; (with_reducible refine (H6.out _).mono ?_); rintro e v3 ⟨rfl, hb⟩; have hSv3 : v3.cell? ⟨w.heap.size, 0, none⟩ = some (.string A) ∧ v3.cell? ⟨w.heap.size, 4, none⟩ = some (.string M) ∧ Hid (Below w.heap.size w v3 ∧ Bk v3 w.heap.size #[.string A, .string B, .bool q, .string E, .string M] 26) := sm_below rfl rfl hq hb; clear hq hb))
  all_goals
    obtain ⟨_, _, hk⟩ := ‹_ ∧ _›
    go_wp2
    go_ret
    exact ⟨rfl, hk.out.1⟩

theorem law_minv (A B E M : ByteArray) (q : Bool) (w : World) (hA : A.size ≤ 9223372036854775807) (hB : B.size ≤ 9223372036854775807) (hE : E.size ≤ 9223372036854775807) (hM : M.size ≤ 9223372036854775807) :
    Calls Tryz.prog 5 #[.agg #[.string A, .string B, .bool q, .string E, .string M]] w (Made w (.bool true)) := by
  rcases hr : (decide (A.size ≤ 24) && decide (B.size ≤ 24) && decide (E.size ≤ 16) && decide (M.size ≤ 8)) with _ | _
  · exact inv_long A B E M q w hA hB hE hM hr
  · have hr' := hr
    simp only [Bool.and_eq_true, decide_eq_true_eq] at hr'
    obtain ⟨⟨⟨r1, r2⟩, r3⟩, r4⟩ := hr'
    rcases hv : (validB A && validB M) with _ | _
    · exact inv_bad_core A B E M q w hA hB hE hM hr _ 3 (by decide) (mInverse_err A M false _ hA hM hv rfl (.inl rfl)) (rInverse_err A M false _ hA hM hv rfl (.inl rfl))
    · rcases hem : M.toList.isEmpty with _ | _
      · simp only [Bool.and_eq_true] at hv
        obtain ⟨a, ta, rfl⟩ := bs_of_valid hv.1
        obtain ⟨m, tm, rfl⟩ := bs_of_valid hv.2
        rw [bs_le] at r1 r4
        rw [bs_isEmpty] at hem
        have h0 : m ≠ 0 := by simpa using hem
        have a60 : a < 256 ^ 60 := Nat.lt_of_lt_of_le r1 (Nat.pow_le_pow_right (by decide) (by decide))
        have m60 : m < 256 ^ 60 := Nat.lt_of_lt_of_le r4 (Nat.pow_le_pow_right (by decide) (by decide))
        by_cases hg : Nat.gcd a m = 1
        · obtain ⟨X, hX, hX1, hXY⟩ := inv_ex h0 hg
          have hXm : Nat.gcd X m = 1 := by
            obtain ⟨Y, hY⟩ := hXY
            have h1 : (Nat.gcd X m : Int) ∣ 1 := by
              rw [← hY]
              exact Int.dvd_add (Int.dvd_trans (Int.natCast_dvd_natCast.2 (Nat.gcd_dvd_left X m)) (Int.dvd_mul_left _ _)) (Int.dvd_trans (Int.natCast_dvd_natCast.2 (Nat.gcd_dvd_right X m)) (Int.dvd_mul_right _ _))
            have := Int.le_of_dvd (by decide) h1
            have hp := Nat.gcd_pos_of_pos_right X (Nat.pos_of_ne_zero h0)
            omega
          have tX := Nat.lt_trans hX tm
          have x60 := Nat.lt_trans hX m60
          exact inv_good _ B E _ q w hA hB hE hM hr (bs X) (bs (a % m)) (bs (1 % m)) (fun W => minverse_ok a m X W a60 m60 h0 hg hX hX1) (fun W => rInverse_ok a m X W ta h0 r4 hg hX hX1)
            (fun W => by have := rMul_ok a X m W ta tX h0 r4; rwa [hX1] at this)
            (fun W => minverse_ok X m (a % m) W x60 m60 h0 hXm (Nat.mod_lt a (Nat.pos_of_ne_zero h0)) (by rw [Nat.mul_mod, Nat.mod_mod, ← Nat.mul_mod, Nat.mul_comm, hX1]))
            (fun W => rmod3 1 m W (by unfold Top; decide) tm h0) (fun W => rmod3 a m W ta tm h0)
        · exact inv_bad_core _ B E _ q w hA hB hE hM hr _ 9 (by decide) (fun W => minverse_none a m W a60 m60 h0 hg) (fun W => rInverse_none a m W ta h0 r4 hg)
      · exact inv_bad_core A B E M q w hA hB hE hM hr _ 11 (by decide) (mInverse_err A M true true hA hM hv hem (.inr rfl)) (rInverse_err A M true true hA hM hv hem (.inr rfl))
end Go.Proofs.YtppdolmeeiookaaGreat
