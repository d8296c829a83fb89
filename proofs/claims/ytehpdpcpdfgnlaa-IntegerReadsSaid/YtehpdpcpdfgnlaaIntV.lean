/-
  The contracts of Small, of integer and of the reference.
-/
import Derived.Test.YtehpdpcpdfgnlaaIntU
namespace Go.Proofs.Ytehpdpcpdfgnlaa
open Go.RowKit Num

set_option maxHeartbeats 1000000 in
set_option maxRecDepth 100000 in
theorem ismall_in {z : Int} (h0 : -9223372036854775808 ≤ z) (h1 : z ≤ 9223372036854775807) (w : World) : Calls Try.prog 22 #[(.agg #[.bool (zneg z), .string (bs (zabs z))])] w (Made w (.tuple #[.int .i64 z, .bool true])) := by
  have hz : zabs z < 18446744073709551616 := by unfold zabs; omega
  have V1 := Lib.hid (fun W => ivalid_yes (top_big hz) W)
  have H1 := Lib.hid (fun W => small_yes (zabs z) W hz)
  rcases hp : zneg z with _ | _
  · obtain ⟨n, rfl⟩ : ∃ n : Nat, z = (n : Int) := ⟨z.toNat, by unfold zneg at hp; simp at hp; omega⟩
    rw [hp] at V1
    rw [zabs_nat] at V1 H1 ⊢
    clear hp hz
    have hcv : IntKind.i64.wrap (n : Int) = (n : Int) := by rw [IntKind.wrap_i64]; omega
    have hd2 : decide ((n : Int) < 9223372036854775808) = true := decide_eq_true (by omega)
    clear h0 h1
    go_enter Try.func22, Try.ntmps22
    go_wp2_with fail
    refine (H1.out _).mono ?_
    rintro e w' ⟨rfl, rfl⟩
    go_wp2_with fail
    refine (V1.out _).mono ?_
    rintro e w2 ⟨rfl, hb⟩
    have HB := hb
    clear hb
    obtain ⟨hc, hf⟩ := bcell HB
    have hB := ((Below.refl w.heap.size w).alloc (Nat.le_refl _) _).trans (HB.mono (by simp))
    go_wp2
    go_ret2
    first | exact ⟨rfl, hB⟩ | exact ⟨by rw [hcn]; rfl, hB⟩ | exact ⟨by rw [hcs]; rfl, hB⟩
  · obtain ⟨n, rfl⟩ : ∃ n : Nat, z = -(n : Int) := ⟨z.natAbs, by unfold zneg at hp; simp at hp; omega⟩
    have hn0 : 0 < n := by unfold zneg at hp; simp at hp; omega
    have hn : n ≤ 9223372036854775808 := by omega
    rw [hp] at V1
    rw [show zabs (-(n : Int)) = n by unfold zabs; omega] at V1 H1 ⊢
    clear hp hz h0 h1
    by_cases hm : n = 9223372036854775808
    · have hcv : IntKind.i64.wrap (n : Int) = -(n : Int) := by rw [IntKind.wrap_i64]; omega
      have hcw : wrap64 (n : Int) = -(n : Int) := by unfold wrap64; omega
      have hcx : wrap64 (- -(n : Int)) = -(n : Int) := by unfold wrap64; omega
      have hd1 : decide ((n : Int) ≤ 9223372036854775808) = true := decide_eq_true (by omega)
      clear hm hn
      go_enter Try.func22, Try.ntmps22
      go_wp2_with fail
      refine (H1.out _).mono ?_
      rintro e w' ⟨rfl, rfl⟩
      go_wp2_with fail
      refine (V1.out _).mono ?_
      rintro e w2 ⟨rfl, hb⟩
      have HB := hb
      clear hb
      obtain ⟨hc, hf⟩ := bcell HB
      have hB := ((Below.refl w.heap.size w).alloc (Nat.le_refl _) _).trans (HB.mono (by simp))
      go_wp2
      go_ret2
      first | exact ⟨rfl, hB⟩ | exact ⟨by rw [hcn]; rfl, hB⟩ | exact ⟨by rw [hcs]; rfl, hB⟩
    · have hcv : IntKind.i64.wrap (n : Int) = (n : Int) := by rw [IntKind.wrap_i64]; omega
      have hcn : wrap64 (-(n : Int)) = -(n : Int) := by unfold wrap64; omega
      have hd1 : decide ((n : Int) ≤ 9223372036854775808) = true := decide_eq_true (by omega)
      clear hm hn
      go_enter Try.func22, Try.ntmps22
      go_wp2_with fail
      refine (H1.out _).mono ?_
      rintro e w' ⟨rfl, rfl⟩
      go_wp2_with fail
      refine (V1.out _).mono ?_
      rintro e w2 ⟨rfl, hb⟩
      have HB := hb
      clear hb
      obtain ⟨hc, hf⟩ := bcell HB
      have hB := ((Below.refl w.heap.size w).alloc (Nat.le_refl _) _).trans (HB.mono (by simp))
      go_wp2
      go_ret2
      first | exact ⟨rfl, hB⟩ | exact ⟨by rw [hcn]; rfl, hB⟩ | exact ⟨by rw [hcs]; rfl, hB⟩

set_option maxHeartbeats 1000000 in
set_option maxRecDepth 100000 in
theorem rismall_in {z : Int} (h0 : -9223372036854775808 ≤ z) (h1 : z ≤ 9223372036854775807) (w : World) : Calls Try.prog 23 #[(.agg #[.bool (zneg z), .string (bs (zabs z))])] w (Made w (.tuple #[.int .i64 z, .bool true])) := by
  have hz : zabs z < 18446744073709551616 := by unfold zabs; omega
  have V1 := Lib.hid (fun W => rivalid_yes (top_big hz) W)
  have H1 := Lib.hid (fun W => rsmall_yes (zabs z) W hz)
  rcases hp : zneg z with _ | _
  · obtain ⟨n, rfl⟩ : ∃ n : Nat, z = (n : Int) := ⟨z.toNat, by unfold zneg at hp; simp at hp; omega⟩
    rw [hp] at V1
    rw [zabs_nat] at V1 H1 ⊢
    clear hp hz
    have hcv : IntKind.i64.wrap (n : Int) = (n : Int) := by rw [IntKind.wrap_i64]; omega
    have hd2 : decide ((n : Int) < 9223372036854775808) = true := decide_eq_true (by omega)
    clear h0 h1
    go_enter Try.func23, Try.ntmps23
    go_wp2_with fail
    refine (V1.out _).mono ?_
    rintro e w1 ⟨rfl, hb⟩
    have HB := hb
    clear hb
    obtain ⟨hc, hf⟩ := bcell HB
    go_wp2_with fail
    refine (H1.out _).mono ?_
    rintro e w' ⟨rfl, rfl⟩
    have hB := ((Below.refl w.heap.size w).alloc (Nat.le_refl _) _).trans (HB.mono (by simp))
    go_wp2
    go_ret2
    first | exact ⟨rfl, hB⟩ | exact ⟨by rw [hcn]; rfl, hB⟩ | exact ⟨by rw [hcs]; rfl, hB⟩
  · obtain ⟨n, rfl⟩ : ∃ n : Nat, z = -(n : Int) := ⟨z.natAbs, by unfold zneg at hp; simp at hp; omega⟩
    have hn0 : 0 < n := by unfold zneg at hp; simp at hp; omega
    have hn : n ≤ 9223372036854775808 := by omega
    rw [hp] at V1
    rw [show zabs (-(n : Int)) = n by unfold zabs; omega] at V1 H1 ⊢
    clear hp hz h0 h1
    obtain ⟨m, rfl⟩ : ∃ m, n = m + 1 := ⟨n - 1, by omega⟩
    have hcv : IntKind.i64.wrap (m : Int) = (m : Int) := by rw [IntKind.wrap_i64]; omega
    have hcu : IntKind.u64.wrap (m : Int) = (m : Int) := by rw [IntKind.wrap_u64]; omega
    have hcn : wrap64 (-(m : Int)) = -(m : Int) := by unfold wrap64; omega
    have hcs : wrap64 (-(m : Int) - 1) = -((m : Int) + 1) := by unfold wrap64; omega
    have hd1 : decide ((m : Int) + 1 ≤ 9223372036854775808) = true := decide_eq_true (by omega)
    have hmi : (m : Int) + 1 - 1 = (m : Int) := by omega
    rw [show (((m + 1 : Nat)) : Int) = (m : Int) + 1 from rfl] at H1 ⊢
    clear hn hn0
    go_enter Try.func23, Try.ntmps23
    go_wp2_with fail
    refine (V1.out _).mono ?_
    rintro e w1 ⟨rfl, hb⟩
    have HB := hb
    clear hb
    obtain ⟨hc, hf⟩ := bcell HB
    go_wp2_with fail
    refine (H1.out _).mono ?_
    rintro e w' ⟨rfl, rfl⟩
    have hB := ((Below.refl w.heap.size w).alloc (Nat.le_refl _) _).trans (HB.mono (by simp))
    go_wp2
    go_ret2
    first | exact ⟨rfl, hB⟩ | exact ⟨by rw [hcn]; rfl, hB⟩ | exact ⟨by rw [hcs]; rfl, hB⟩

set_option maxHeartbeats 1000000 in
set_option maxRecDepth 100000 in
theorem ismall_big {p : Bool} {s : ByteArray} {n : Int} (c1 : ∀ W, Calls Try.prog 73 #[.string s] W (Same W (.tuple #[.int .u64 0, .bool false]))) (w : World) : Calls Try.prog 22 #[.agg #[.bool p, .string s]] w (Made w (.tuple #[.int .i64 0, .bool false])) := by
  have _ := n
  have H1 := Lib.hid c1
  clear c1
  go_enter Try.func22, Try.ntmps22
  go_wp2_with fail
  refine (H1.out _).mono ?_
  rintro e w' ⟨rfl, rfl⟩
  go_wp2
  go_ret2
  exact ⟨rfl, (Below.refl _ _).alloc (Nat.le_refl _) _⟩

set_option maxHeartbeats 1000000 in
set_option maxRecDepth 100000 in
theorem ismall_bad {p : Bool} {s : ByteArray} {n : Int} (c1 : ∀ W, Calls Try.prog 73 #[.string s] W (Same W (.tuple #[.int .u64 n, .bool true]))) (c2 : ∀ W, Calls Try.prog 25 #[.agg #[.bool p, .string s]] W (Made W (.bool false))) (w : World) : Calls Try.prog 22 #[.agg #[.bool p, .string s]] w (Made w (.tuple #[.int .i64 0, .bool false])) := by
  have H1 := Lib.hid c1
  clear c1
  have V1 := Lib.hid c2
  clear c2
  go_enter Try.func22, Try.ntmps22
  go_wp2_with fail
  refine (H1.out _).mono ?_
  rintro e w' ⟨rfl, rfl⟩
  go_wp2_with fail
  refine (V1.out _).mono ?_
  rintro e w2 ⟨rfl, hb⟩
  have HB := hb
  clear hb
  obtain ⟨hc, hf⟩ := bcell HB
  have hB := ((Below.refl w.heap.size w).alloc (Nat.le_refl _) _).trans (HB.mono (by simp))
  go_wp2
  go_ret2
  exact ⟨rfl, hB⟩

set_option maxHeartbeats 1000000 in
set_option maxRecDepth 100000 in
theorem ismall_hip {p : Bool} {s : ByteArray} {n : Int} (c1 : ∀ W, Calls Try.prog 73 #[.string s] W (Same W (.tuple #[.int .u64 n, .bool true]))) (c2 : ∀ W, Calls Try.prog 25 #[.agg #[.bool p, .string s]] W (Made W (.bool true))) (hp : p = false) (hd : decide (n < 9223372036854775808) = false) (w : World) : Calls Try.prog 22 #[.agg #[.bool p, .string s]] w (Made w (.tuple #[.int .i64 0, .bool false])) := by
  subst hp
  have H1 := Lib.hid c1
  clear c1
  have V1 := Lib.hid c2
  clear c2
  go_enter Try.func22, Try.ntmps22
  go_wp2_with fail
  refine (H1.out _).mono ?_
  rintro e w' ⟨rfl, rfl⟩
  go_wp2_with fail
  refine (V1.out _).mono ?_
  rintro e w2 ⟨rfl, hb⟩
  have HB := hb
  clear hb
  obtain ⟨hc, hf⟩ := bcell HB
  have hB := ((Below.refl w.heap.size w).alloc (Nat.le_refl _) _).trans (HB.mono (by simp))
  go_wp2
  go_ret2
  exact ⟨rfl, hB⟩

set_option maxHeartbeats 1000000 in
set_option maxRecDepth 100000 in
theorem ismall_hin {p : Bool} {s : ByteArray} {n : Int} (c1 : ∀ W, Calls Try.prog 73 #[.string s] W (Same W (.tuple #[.int .u64 n, .bool true]))) (c2 : ∀ W, Calls Try.prog 25 #[.agg #[.bool p, .string s]] W (Made W (.bool true))) (hp : p = true) (hd : decide (n ≤ 9223372036854775808) = false) (w : World) : Calls Try.prog 22 #[.agg #[.bool p, .string s]] w (Made w (.tuple #[.int .i64 0, .bool false])) := by
  subst hp
  have H1 := Lib.hid c1
  clear c1
  have V1 := Lib.hid c2
  clear c2
  go_enter Try.func22, Try.ntmps22
  go_wp2_with fail
  refine (H1.out _).mono ?_
  rintro e w' ⟨rfl, rfl⟩
  go_wp2_with fail
  refine (V1.out _).mono ?_
  rintro e w2 ⟨rfl, hb⟩
  have HB := hb
  clear hb
  obtain ⟨hc, hf⟩ := bcell HB
  have hB := ((Below.refl w.heap.size w).alloc (Nat.le_refl _) _).trans (HB.mono (by simp))
  go_wp2
  go_ret2
  exact ⟨rfl, hB⟩

set_option maxHeartbeats 1000000 in
set_option maxRecDepth 100000 in
theorem rismall_bad {p : Bool} {s : ByteArray} {n : Int} (c2 : ∀ W, Calls Try.prog 26 #[.agg #[.bool p, .string s]] W (Made W (.bool false))) (w : World) : Calls Try.prog 23 #[.agg #[.bool p, .string s]] w (Made w (.tuple #[.int .i64 0, .bool false])) := by
  have _ := n
  have V1 := Lib.hid c2
  clear c2
  go_enter Try.func23, Try.ntmps23
  go_wp2_with fail
  refine (V1.out _).mono ?_
  rintro e w2 ⟨rfl, hb⟩
  have HB := hb
  clear hb
  obtain ⟨hc, hf⟩ := bcell HB
  have hB := ((Below.refl w.heap.size w).alloc (Nat.le_refl _) _).trans (HB.mono (by simp))
  go_wp2
  go_ret2
  exact ⟨rfl, hB⟩

set_option maxHeartbeats 1000000 in
set_option maxRecDepth 100000 in
theorem rismall_big {p : Bool} {s : ByteArray} {n : Int} (c1 : ∀ W, Calls Try.prog 74 #[.string s] W (Same W (.tuple #[.int .u64 0, .bool false]))) (c2 : ∀ W, Calls Try.prog 26 #[.agg #[.bool p, .string s]] W (Made W (.bool true))) (w : World) : Calls Try.prog 23 #[.agg #[.bool p, .string s]] w (Made w (.tuple #[.int .i64 0, .bool false])) := by
  have _ := n
  have H1 := Lib.hid c1
  clear c1
  have V1 := Lib.hid c2
  clear c2
  go_enter Try.func23, Try.ntmps23
  go_wp2_with fail
  refine (V1.out _).mono ?_
  rintro e w2 ⟨rfl, hb⟩
  have HB := hb
  clear hb
  obtain ⟨hc, hf⟩ := bcell HB
  go_wp2_with fail
  refine (H1.out _).mono ?_
  rintro e w' ⟨rfl, rfl⟩
  have hB := ((Below.refl w.heap.size w).alloc (Nat.le_refl _) _).trans (HB.mono (by simp))
  go_wp2
  go_ret2
  exact ⟨rfl, hB⟩

set_option maxHeartbeats 1000000 in
set_option maxRecDepth 100000 in
theorem rismall_hip {p : Bool} {s : ByteArray} {n : Int} (c1 : ∀ W, Calls Try.prog 74 #[.string s] W (Same W (.tuple #[.int .u64 n, .bool true]))) (c2 : ∀ W, Calls Try.prog 26 #[.agg #[.bool p, .string s]] W (Made W (.bool true))) (hp : p = false) (hd : decide (n < 9223372036854775808) = false) (w : World) : Calls Try.prog 23 #[.agg #[.bool p, .string s]] w (Made w (.tuple #[.int .i64 0, .bool false])) := by
  subst hp
  have H1 := Lib.hid c1
  clear c1
  have V1 := Lib.hid c2
  clear c2
  go_enter Try.func23, Try.ntmps23
  go_wp2_with fail
  refine (V1.out _).mono ?_
  rintro e w2 ⟨rfl, hb⟩
  have HB := hb
  clear hb
  obtain ⟨hc, hf⟩ := bcell HB
  go_wp2_with fail
  refine (H1.out _).mono ?_
  rintro e w' ⟨rfl, rfl⟩
  have hB := ((Below.refl w.heap.size w).alloc (Nat.le_refl _) _).trans (HB.mono (by simp))
  go_wp2
  go_ret2
  exact ⟨rfl, hB⟩

set_option maxHeartbeats 1000000 in
set_option maxRecDepth 100000 in
theorem rismall_hin {p : Bool} {s : ByteArray} {n : Int} (c1 : ∀ W, Calls Try.prog 74 #[.string s] W (Same W (.tuple #[.int .u64 n, .bool true]))) (c2 : ∀ W, Calls Try.prog 26 #[.agg #[.bool p, .string s]] W (Made W (.bool true))) (hp : p = true) (hd : decide (n ≤ 9223372036854775808) = false) (w : World) : Calls Try.prog 23 #[.agg #[.bool p, .string s]] w (Made w (.tuple #[.int .i64 0, .bool false])) := by
  subst hp
  have H1 := Lib.hid c1
  clear c1
  have V1 := Lib.hid c2
  clear c2
  go_enter Try.func23, Try.ntmps23
  go_wp2_with fail
  refine (V1.out _).mono ?_
  rintro e w2 ⟨rfl, hb⟩
  have HB := hb
  clear hb
  obtain ⟨hc, hf⟩ := bcell HB
  go_wp2_with fail
  refine (H1.out _).mono ?_
  rintro e w' ⟨rfl, rfl⟩
  have hB := ((Below.refl w.heap.size w).alloc (Nat.le_refl _) _).trans (HB.mono (by simp))
  go_wp2
  go_ret2
  exact ⟨rfl, hB⟩

/-- Small of both, at any sign and string. -/
theorem both_small (p : Bool) (s : ByteArray) (hs : s.size ≤ 9223372036854775807) : ∃ (v : Int) (ok : Bool),
    (∀ W, Calls Try.prog 22 #[.agg #[.bool p, .string s]] W (Made W (.tuple #[.int .i64 v, .bool ok]))) ∧
    (∀ W, Calls Try.prog 23 #[.agg #[.bool p, .string s]] W (Made W (.tuple #[.int .i64 v, .bool ok]))) := by
  rcases h1 : vI p s with _ | _
  · refine ⟨0, false, fun W => ?_, fun W => rismall_bad (n := 0) (fun W => rivalid_no h1 W hs) W⟩
    rcases hv : validB s with _ | _
    · exact ismall_big (n := 0) (fun W => small_no s W hs (.inl hv)) W
    · obtain ⟨k, hk, rfl⟩ := bs_of_valid hv
      have hk0 : k = 0 := by
        apply Decidable.byContradiction
        intro hk0
        unfold vI at h1
        rw [hv, bs_isEmpty, show (k == 0) = false by rw [beq_eq_false_iff_ne]; exact hk0] at h1
        simp at h1
      subst hk0
      exact ismall_bad (n := 0) (fun W => small_yes 0 W (by decide)) (fun W => ivalid_no h1 W hs) W
  · obtain ⟨z, hz, rfl, rfl⟩ := vI_of h1
    by_cases hin : -9223372036854775808 ≤ z ∧ z ≤ 9223372036854775807
    · exact ⟨z, true, fun W => ismall_in hin.1 hin.2 W, fun W => rismall_in hin.1 hin.2 W⟩
    · refine ⟨0, false, ?_⟩
      by_cases h64 : zabs z < 18446744073709551616
      · rcases (show zneg z = false ∨ zneg z = true by cases zneg z <;> simp) with hp | hp
        · have hd : decide (((zabs z : Nat) : Int) < 9223372036854775808) = false := by
            rw [decide_eq_false_iff_not]
            unfold zneg at hp
            simp at hp
            unfold zabs
            omega
          exact ⟨fun W => ismall_hip (fun W => small_yes _ W h64) (fun W => ivalid_yes hz W) hp hd W, fun W => rismall_hip (fun W => rsmall_yes _ W h64) (fun W => rivalid_yes hz W) hp hd W⟩
        · have hd : decide (((zabs z : Nat) : Int) ≤ 9223372036854775808) = false := by
            rw [decide_eq_false_iff_not]
            unfold zneg at hp
            simp at hp
            unfold zabs
            omega
          exact ⟨fun W => ismall_hin (fun W => small_yes _ W h64) (fun W => ivalid_yes hz W) hp hd W, fun W => rismall_hin (fun W => rsmall_yes _ W h64) (fun W => rivalid_yes hz W) hp hd W⟩
      · have h8 : 8 < (bs (zabs z)).size := by
          apply Decidable.byContradiction
          intro hc
          have := bs_le.1 (show (bs (zabs z)).size ≤ 8 by omega)
          omega
        exact ⟨fun W => ismall_big (n := 0) (fun W => small_no _ W (by have := bs_small hz; omega) (.inr h8)) W, fun W => rismall_big (n := 0) (fun W => rsmall_no _ W (by have := bs_small hz; omega) (.inr h8)) (fun W => rivalid_yes hz W) W⟩

end Go.Proofs.Ytehpdpcpdfgnlaa
