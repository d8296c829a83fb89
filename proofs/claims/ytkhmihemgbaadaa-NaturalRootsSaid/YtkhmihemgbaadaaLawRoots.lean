/-
  Contracts of Gcd and Sqrt for all strings, of natural and of the reference; dominolaw01.NaturalRoots returns true: the walk.
-/
import Derived.Test.YtkhmihemgbaadaaRefI
namespace Go.Proofs.Ytkhmihemgbaadaa
open Go.RowKit Num

set_option maxHeartbeats 400000 in
theorem gcd_no (s t : ByteArray) (w : World) (hs : s.size ≤ 9223372036854775807) (ht : t.size ≤ 9223372036854775807) (h : validB s = false ∨ validB t = false) :
    Calls Try.prog 42 #[.string s, .string t] w (Same w (.tuple #[.string (bs 0), .int .i64 3])) := by
  have HZ := Lib.hid bs_zero
  by_cases hv : validB s = true
  · have h2 : validB t = false := by rcases h with h | h; (rw [h] at hv; cases hv); exact h
    have V1 := Lib.hid (fun W => valid_any s W hs)
    rw [hv] at V1
    have V2 := Lib.hid (fun W => valid_no h2 W ht)
    clear hv h h2
    go_enter Try.func42, Try.ntmps42
    go_wp2_with fail
    refine (V1.out _).mono ?_
    rintro e w' ⟨rfl, rfl⟩
    go_wp2_with fail
    refine (V2.out _).mono ?_
    rintro e w' ⟨rfl, rfl⟩
    go_wp2
    go_ret2
    exact ⟨by rw [HZ.out]; rfl, rfl⟩
  · have hv : validB s = false := by simpa using hv
    have V1 := Lib.hid (fun W => valid_no hv W hs)
    clear hv h
    go_enter Try.func42, Try.ntmps42
    go_wp2_with fail
    refine (V1.out _).mono ?_
    rintro e w' ⟨rfl, rfl⟩
    go_wp2
    go_ret2
    exact ⟨by rw [HZ.out]; rfl, rfl⟩

set_option maxHeartbeats 400000 in
theorem rgcd_no (s t : ByteArray) (w : World) (hs : s.size ≤ 9223372036854775807) (ht : t.size ≤ 9223372036854775807) (h : validB s = false ∨ validB t = false) :
    Calls Try.prog 43 #[.string s, .string t] w (Same w (.tuple #[.string (bs 0), .int .i64 3])) := by
  have HZ := Lib.hid bs_zero
  by_cases hv : validB s = true
  · have h2 : validB t = false := by rcases h with h | h; (rw [h] at hv; cases hv); exact h
    have V1 := Lib.hid (fun W => rvalid_any s W hs)
    rw [hv] at V1
    have V2 := Lib.hid (fun W => rvalid_no h2 W ht)
    clear hv h h2
    go_enter Try.func43, Try.ntmps43
    go_wp2_with fail
    refine (V1.out _).mono ?_
    rintro e w' ⟨rfl, rfl⟩
    go_wp2_with fail
    refine (V2.out _).mono ?_
    rintro e w' ⟨rfl, rfl⟩
    go_wp2
    go_ret2
    exact ⟨by rw [HZ.out]; rfl, rfl⟩
  · have hv : validB s = false := by simpa using hv
    have V1 := Lib.hid (fun W => rvalid_no hv W hs)
    clear hv h
    go_enter Try.func43, Try.ntmps43
    go_wp2_with fail
    refine (V1.out _).mono ?_
    rintro e w' ⟨rfl, rfl⟩
    go_wp2
    go_ret2
    exact ⟨by rw [HZ.out]; rfl, rfl⟩

set_option maxHeartbeats 400000 in
theorem sqrt_no (s : ByteArray) (w : World) (hs : s.size ≤ 9223372036854775807) (hv : validB s = false) :
    Calls Try.prog 44 #[.string s] w (Same w (.tuple #[.string (bs 0), .int .i64 3])) := by
  have HZ := Lib.hid bs_zero
  have V1 := Lib.hid (fun W => valid_no hv W hs)
  clear hv
  go_enter Try.func44, Try.ntmps44
  go_wp2_with fail
  refine (V1.out _).mono ?_
  rintro e w' ⟨rfl, rfl⟩
  go_wp2
  go_ret2
  exact ⟨by rw [HZ.out]; rfl, rfl⟩

set_option maxHeartbeats 400000 in
theorem rsqrt_no (s : ByteArray) (w : World) (hs : s.size ≤ 9223372036854775807) (hv : validB s = false) :
    Calls Try.prog 45 #[.string s] w (Same w (.tuple #[.string (bs 0), .int .i64 3])) := by
  have HZ := Lib.hid bs_zero
  have V1 := Lib.hid (fun W => rvalid_no hv W hs)
  clear hv
  go_enter Try.func45, Try.ntmps45
  go_wp2_with fail
  refine (V1.out _).mono ?_
  rintro e w' ⟨rfl, rfl⟩
  go_wp2
  go_ret2
  exact ⟨by rw [HZ.out]; rfl, rfl⟩

theorem rooted_made {w : World} {a s : Nat} (hs : IsRoot a s) {e : Ending} {w' : World} (h : Rooted w a e w') : Made w (.tuple #[.string (bs s), .int .i64 0]) e w' := by
  obtain ⟨t, ht, rfl, hb⟩ := h
  rw [root_unique ht hs]
  exact ⟨rfl, hb⟩

set_option maxHeartbeats 1000000 in
set_option maxRecDepth 100000 in
theorem roots_core (s t : ByteArray) (w : World) (S Q : ByteArray) (e0 e1 : Int) (hs : s.size ≤ 60) (ht : t.size ≤ 60)
    (C0 : ∀ W, Calls Try.prog 42 #[.string s, .string t] W (Made W (.tuple #[.string S, .int .i64 e0])))
    (C1 : ∀ W, Calls Try.prog 43 #[.string s, .string t] W (Made W (.tuple #[.string S, .int .i64 e0])))
    (C2 : ∀ W, Calls Try.prog 44 #[.string s] W (Made W (.tuple #[.string Q, .int .i64 e1])))
    (C3 : ∀ W, Calls Try.prog 45 #[.string s] W (Made W (.tuple #[.string Q, .int .i64 e1]))) :
    Calls Try.prog 7 #[.string s, .string t] w (Made w (.bool true)) := by
  have H0 := Lib.hid C0
  have H1 := Lib.hid C1
  have H2 := Lib.hid C2
  have H3 := Lib.hid C3
  clear C0 C1 C2 C3
  have hB : Below w.heap.size w w := Below.refl _ _
  go_enter Try.func7, Try.ntmps7
  go_wp2_with (first
    | (go_at_call 42; refine (H0.out _).mono ?_; rintro e w' ⟨rfl, hb⟩; replace hB := hB.trans (hb.mono hB.size); clear hb)
    | (go_at_call 43; refine (H1.out _).mono ?_; rintro e w' ⟨rfl, hb⟩; replace hB := hB.trans (hb.mono hB.size); clear hb)
    | (go_at_call 44; refine (H2.out _).mono ?_; rintro e w' ⟨rfl, hb⟩; replace hB := hB.trans (hb.mono hB.size); clear hb)
    | (go_at_call 45; refine (H3.out _).mono ?_; rintro e w' ⟨rfl, hb⟩; replace hB := hB.trans (hb.mono hB.size); clear hb)
    | (go_at_call 22; refine (awake_any _).mono ?_; rintro e w' ⟨rfl, hb⟩; replace hB := hB.trans (hb.mono hB.size); clear hb))
  go_ret
  exact ⟨rfl, hB⟩

set_option maxHeartbeats 1000000 in
set_option maxRecDepth 100000 in
theorem law_roots (s t : ByteArray) (w : World) (hs : s.size ≤ 9223372036854775807) (ht : t.size ≤ 9223372036854775807) :
    Calls Try.prog 7 #[.string s, .string t] w (Made w (.bool true)) := by
  have hB : Below w.heap.size w w := Below.refl _ _
  by_cases h1 : 60 < s.size
  · go_enter Try.func7, Try.ntmps7
    go_wp2_with (go_at_call 22; refine (awake_any _).mono ?_; rintro e w' ⟨rfl, hb⟩; replace hB := hB.trans (hb.mono hB.size); clear hb)
    go_ret
    exact ⟨rfl, hB⟩
  by_cases h2 : 60 < t.size
  · go_enter Try.func7, Try.ntmps7
    go_wp2_with (go_at_call 22; refine (awake_any _).mono ?_; rintro e w' ⟨rfl, hb⟩; replace hB := hB.trans (hb.mono hB.size); clear hb)
    go_ret
    exact ⟨rfl, hB⟩
  clear hB
  have hs60 : s.size ≤ 60 := by omega
  have ht60 : t.size ≤ 60 := by omega
  have hroot : ∃ (S : ByteArray) (e0 : Int), (∀ W, Calls Try.prog 44 #[.string s] W (Made W (.tuple #[.string S, .int .i64 e0]))) ∧ (∀ W, Calls Try.prog 45 #[.string s] W (Made W (.tuple #[.string S, .int .i64 e0]))) := by
    rcases h3 : validB s with _ | _
    · exact ⟨_, _, fun W => (sqrt_no s W hs h3).mono (fun _ _ h => same_made h), fun W => (rsqrt_no s W hs h3).mono (fun _ _ h => same_made h)⟩
    · obtain ⟨a, ha, rfl⟩ := bs_of_valid h3
      obtain ⟨r, hr⟩ := root_ex a
      exact ⟨_, _, fun W => (sqrt_ok ha W).mono (fun _ _ h => rooted_made hr h), fun W => (rsqrt_ok ha W).mono (fun _ _ h => rooted_made hr h)⟩
  have hgcd : ∃ (S : ByteArray) (e0 : Int), (∀ W, Calls Try.prog 42 #[.string s, .string t] W (Made W (.tuple #[.string S, .int .i64 e0]))) ∧ (∀ W, Calls Try.prog 43 #[.string s, .string t] W (Made W (.tuple #[.string S, .int .i64 e0]))) := by
    by_cases hv : validB s = true ∧ validB t = true
    · obtain ⟨a, ha, rfl⟩ := bs_of_valid hv.1
      obtain ⟨b, hb, rfl⟩ := bs_of_valid hv.2
      exact ⟨_, _, fun W => gcd_ok ha hb W, fun W => rgcd_ok ha hb W⟩
    · have hv : validB s = false ∨ validB t = false := by
        rcases h3 : validB s with _ | _
        · exact .inl rfl
        · right
          rcases h4 : validB t with _ | _
          · rfl
          · exact absurd ⟨h3, h4⟩ hv
      exact ⟨_, _, fun W => (gcd_no s t W hs ht hv).mono (fun _ _ h => same_made h), fun W => (rgcd_no s t W hs ht hv).mono (fun _ _ h => same_made h)⟩
  obtain ⟨S, e0, a1, a2⟩ := hgcd
  obtain ⟨Q, e1, d1, d2⟩ := hroot
  exact roots_core s t w S Q e0 e1 hs60 ht60 a1 a2 d1 d2
end Go.Proofs.Ytkhmihemgbaadaa
