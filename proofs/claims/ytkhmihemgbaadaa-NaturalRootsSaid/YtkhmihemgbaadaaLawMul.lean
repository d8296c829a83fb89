/-
  Contracts of Mul and DivMod for all strings, of natural and of the reference; dominolaw01.NaturalMultiplies returns true: the walk.
-/
import Derived.Test.YtkhmihemgbaadaaLawAdds
import Derived.Test.YtkhmihemgbaadaaRefG
namespace Go.Proofs.Ytkhmihemgbaadaa
open Go.RowKit Num

set_option maxHeartbeats 400000 in
theorem mul_no (s t : ByteArray) (w : World) (hs : s.size ≤ 9223372036854775807) (ht : t.size ≤ 9223372036854775807) (h : validB s = false ∨ validB t = false) :
    Calls Try.prog 38 #[.string s, .string t] w (Same w (.tuple #[.string (bs 0), .int .i64 3])) := by
  have HZ := Lib.hid bs_zero
  by_cases hv : validB s = true
  · have h2 : validB t = false := by rcases h with h | h; (rw [h] at hv; cases hv); exact h
    have V1 := Lib.hid (fun W => valid_any s W hs)
    rw [hv] at V1
    have V2 := Lib.hid (fun W => valid_no h2 W ht)
    clear hv h h2
    go_enter Try.func38, Try.ntmps38
    go_wp2_with fail
    refine (V1.out _).mono ?_
    rintro e w' ⟨rfl, rfl⟩
    go_wp2_with fail
    refine (V2.out _).mono ?_
    rintro e w' ⟨rfl, rfl⟩
    go_wp2
    go_ret2
    exact ⟨by rw [HZ.out]; rfl, rfl⟩
  · have hv : validB s = false := by simpa using hv
    have V1 := Lib.hid (fun W => valid_no hv W hs)
    clear hv h
    go_enter Try.func38, Try.ntmps38
    go_wp2_with fail
    refine (V1.out _).mono ?_
    rintro e w' ⟨rfl, rfl⟩
    go_wp2
    go_ret2
    exact ⟨by rw [HZ.out]; rfl, rfl⟩

set_option maxHeartbeats 400000 in
theorem divmod_no (s t : ByteArray) (w : World) (hs : s.size ≤ 9223372036854775807) (ht : t.size ≤ 9223372036854775807) (h : validB s = false ∨ validB t = false) :
    Calls Try.prog 40 #[.string s, .string t] w (Same w (.tuple #[.string (bs 0), .string (bs 0), .int .i64 3])) := by
  have HZ := Lib.hid bs_zero
  by_cases hv : validB s = true
  · have h2 : validB t = false := by rcases h with h | h; (rw [h] at hv; cases hv); exact h
    have V1 := Lib.hid (fun W => valid_any s W hs)
    rw [hv] at V1
    have V2 := Lib.hid (fun W => valid_no h2 W ht)
    clear hv h h2
    go_enter Try.func40, Try.ntmps40
    go_wp2_with fail
    refine (V1.out _).mono ?_
    rintro e w' ⟨rfl, rfl⟩
    go_wp2_with fail
    refine (V2.out _).mono ?_
    rintro e w' ⟨rfl, rfl⟩
    go_wp2
    go_ret3
    exact ⟨by rw [HZ.out]; rfl, rfl⟩
  · have hv : validB s = false := by simpa using hv
    have V1 := Lib.hid (fun W => valid_no hv W hs)
    clear hv h
    go_enter Try.func40, Try.ntmps40
    go_wp2_with fail
    refine (V1.out _).mono ?_
    rintro e w' ⟨rfl, rfl⟩
    go_wp2
    go_ret3
    exact ⟨by rw [HZ.out]; rfl, rfl⟩

set_option maxHeartbeats 400000 in
theorem rmul_no (s t : ByteArray) (w : World) (hs : s.size ≤ 9223372036854775807) (ht : t.size ≤ 9223372036854775807) (h : validB s = false ∨ validB t = false) :
    Calls Try.prog 39 #[.string s, .string t] w (Same w (.tuple #[.string (bs 0), .int .i64 3])) := by
  have HZ := Lib.hid bs_zero
  by_cases hv : validB s = true
  · have h2 : validB t = false := by rcases h with h | h; (rw [h] at hv; cases hv); exact h
    have V1 := Lib.hid (fun W => rvalid_any s W hs)
    rw [hv] at V1
    have V2 := Lib.hid (fun W => rvalid_no h2 W ht)
    clear hv h h2
    go_enter Try.func39, Try.ntmps39
    go_wp2_with fail
    refine (V1.out _).mono ?_
    rintro e w' ⟨rfl, rfl⟩
    go_wp2_with fail
    refine (V2.out _).mono ?_
    rintro e w' ⟨rfl, rfl⟩
    go_wp2
    go_ret2
    exact ⟨by rw [HZ.out]; rfl, rfl⟩
  · have hv : validB s = false := by simpa using hv
    have V1 := Lib.hid (fun W => rvalid_no hv W hs)
    clear hv h
    go_enter Try.func39, Try.ntmps39
    go_wp2_with fail
    refine (V1.out _).mono ?_
    rintro e w' ⟨rfl, rfl⟩
    go_wp2
    go_ret2
    exact ⟨by rw [HZ.out]; rfl, rfl⟩

set_option maxHeartbeats 400000 in
theorem rdivmod_no (s t : ByteArray) (w : World) (hs : s.size ≤ 9223372036854775807) (ht : t.size ≤ 9223372036854775807) (h : validB s = false ∨ validB t = false) :
    Calls Try.prog 41 #[.string s, .string t] w (Same w (.tuple #[.string (bs 0), .string (bs 0), .int .i64 3])) := by
  have HZ := Lib.hid bs_zero
  by_cases hv : validB s = true
  · have h2 : validB t = false := by rcases h with h | h; (rw [h] at hv; cases hv); exact h
    have V1 := Lib.hid (fun W => rvalid_any s W hs)
    rw [hv] at V1
    have V2 := Lib.hid (fun W => rvalid_no h2 W ht)
    clear hv h h2
    go_enter Try.func41, Try.ntmps41
    go_wp2_with fail
    refine (V1.out _).mono ?_
    rintro e w' ⟨rfl, rfl⟩
    go_wp2_with fail
    refine (V2.out _).mono ?_
    rintro e w' ⟨rfl, rfl⟩
    go_wp2
    go_ret3
    exact ⟨by rw [HZ.out]; rfl, rfl⟩
  · have hv : validB s = false := by simpa using hv
    have V1 := Lib.hid (fun W => rvalid_no hv W hs)
    clear hv h
    go_enter Try.func41, Try.ntmps41
    go_wp2_with fail
    refine (V1.out _).mono ?_
    rintro e w' ⟨rfl, rfl⟩
    go_wp2
    go_ret3
    exact ⟨by rw [HZ.out]; rfl, rfl⟩

theorem rover_any (a b : Nat) (w : World) (h1 : (bs a).size ≤ 2000) (h2 : (bs b).size ≤ 2000) (h0 : b ≠ 0) :
    Calls Try.prog 98 #[.string (bs a), .string (bs b)] w (Made w (.tuple #[.string (bs (a / b)), .string (bs (a % b))])) := by
  by_cases h : (bs a).size ≤ 8 ∧ (bs b).size ≤ 8
  · exact over_small a b w h.1 h.2 h0
  · exact over_long a b w (by omega) h1 h2 (Nat.pos_of_ne_zero h0)
theorem size_mul {a b : Nat} (ha : a < Top) (hb : b < Top) : (bs (a * b)).size ≤ 256 := by
  rw [bs_le]
  unfold Top at ha hb
  rw [show 256 = 128 + 128 from rfl, Nat.pow_add]
  rcases Nat.eq_zero_or_pos b with h | h
  · subst h; rw [Nat.mul_zero]; exact Nat.mul_pos (Nat.pow_pos (by decide)) (Nat.pow_pos (by decide))
  · exact Nat.mul_lt_mul'' ha hb

set_option maxHeartbeats 400000 in
theorem rmul_ok {a b : Nat} (ha : a < Top) (hb : b < Top) (hv : a * b < Top) (w : World) :
    Calls Try.prog 39 #[.string (bs a), .string (bs b)] w (Made w (.tuple #[.string (bs (a * b)), .int .i64 0])) := by
  have h1 := bs_small ha
  have h2 := bs_small hb
  have HA := Lib.hid ha
  have HB := Lib.hid hb
  have HV := Lib.hid hv
  have HSZ := Lib.hid (size_mul ha hb)
  clear hv ha hb
  go_enter Try.func39, Try.ntmps39
  go_wp2_with fail
  refine (rvalid_yes HA.out _).mono ?_
  rintro e w' ⟨rfl, rfl⟩
  go_wp2_with fail
  refine (rvalid_yes HB.out _).mono ?_
  rintro e w' ⟨rfl, rfl⟩
  go_wp2_with fail
  refine (rtimes_any a b _ (by omega) (by omega)).mono ?_
  rintro e w1 ⟨rfl, hb1⟩
  go_wp2_with fail
  refine (rfit_ok HV.out _).mono ?_
  rintro e w' ⟨rfl, rfl⟩
  go_wp2
  go_ret2
  exact ⟨rfl, hb1⟩

set_option maxHeartbeats 400000 in
theorem rmul_long {a b : Nat} (ha : a < Top) (hb : b < Top) (hv : Top ≤ a * b) (w : World) :
    Calls Try.prog 39 #[.string (bs a), .string (bs b)] w (Made w (.tuple #[.string (bs 0), .int .i64 5])) := by
  have h1 := bs_small ha
  have h2 := bs_small hb
  have HA := Lib.hid ha
  have HB := Lib.hid hb
  have HV := Lib.hid hv
  have HSZ := Lib.hid (size_mul ha hb)
  clear hv ha hb
  go_enter Try.func39, Try.ntmps39
  go_wp2_with fail
  refine (rvalid_yes HA.out _).mono ?_
  rintro e w' ⟨rfl, rfl⟩
  go_wp2_with fail
  refine (rvalid_yes HB.out _).mono ?_
  rintro e w' ⟨rfl, rfl⟩
  go_wp2_with fail
  refine (rtimes_any a b _ (by omega) (by omega)).mono ?_
  rintro e w1 ⟨rfl, hb1⟩
  go_wp2_with fail
  refine (rfit_long HV.out (by have := HSZ.out; omega) _).mono ?_
  rintro e w' ⟨rfl, rfl⟩
  go_wp2
  go_ret2
  exact ⟨rfl, hb1⟩

set_option maxHeartbeats 400000 in
theorem rdivmod_ok {a b : Nat} (ha : a < Top) (hb : b < Top) (h0 : b ≠ 0) (w : World) :
    Calls Try.prog 41 #[.string (bs a), .string (bs b)] w (Made w (.tuple #[.string (bs (a / b)), .string (bs (a % b)), .int .i64 0])) := by
  have h1 := bs_small ha
  have h2 := bs_small hb
  have HA := Lib.hid ha
  have HB := Lib.hid hb
  have H0 := Lib.hid h0
  have he : (bs b).toList.isEmpty = false := by rw [bs_isEmpty]; simpa using h0
  clear ha hb h0
  go_enter Try.func41, Try.ntmps41
  go_wp2_with fail
  refine (rvalid_yes HA.out _).mono ?_
  rintro e w' ⟨rfl, rfl⟩
  go_wp2_with fail
  refine (rvalid_yes HB.out _).mono ?_
  rintro e w' ⟨rfl, rfl⟩
  go_wp2_with fail
  refine (rover_any a b _ (by omega) (by omega) H0.out).mono ?_
  rintro e w1 ⟨rfl, hb1⟩
  go_wp2
  go_ret3
  exact ⟨rfl, hb1⟩

set_option maxHeartbeats 400000 in
theorem rdivmod_zero {a : Nat} (ha : a < Top) (w : World) :
    Calls Try.prog 41 #[.string (bs a), .string (bs 0)] w (Same w (.tuple #[.string (bs 0), .string (bs 0), .int .i64 11])) := by
  have HA := Lib.hid ha
  have he : (bs 0).toList.isEmpty = true := by rw [bs_isEmpty]; rfl
  have HZ := Lib.hid bs_zero
  clear ha
  go_enter Try.func41, Try.ntmps41
  go_wp2_with fail
  refine (rvalid_yes HA.out _).mono ?_
  rintro e w' ⟨rfl, rfl⟩
  go_wp2_with fail
  refine (rvalid_yes (show 0 < Top by unfold Top; decide) _).mono ?_
  rintro e w' ⟨rfl, rfl⟩
  go_wp2
  go_ret3
  exact ⟨by rw [HZ.out]; rfl, rfl⟩

set_option maxHeartbeats 1000000 in
set_option maxRecDepth 100000 in
theorem muls_core (s t : ByteArray) (w : World) (S Q R : ByteArray) (e0 e1 : Int) (hs : s.size ≤ 200) (ht : t.size ≤ 200)
    (C0 : ∀ W, Calls Try.prog 38 #[.string s, .string t] W (Made W (.tuple #[.string S, .int .i64 e0])))
    (C1 : ∀ W, Calls Try.prog 39 #[.string s, .string t] W (Made W (.tuple #[.string S, .int .i64 e0])))
    (C2 : ∀ W, Calls Try.prog 40 #[.string s, .string t] W (Made W (.tuple #[.string Q, .string R, .int .i64 e1])))
    (C3 : ∀ W, Calls Try.prog 41 #[.string s, .string t] W (Made W (.tuple #[.string Q, .string R, .int .i64 e1]))) :
    Calls Try.prog 6 #[.string s, .string t] w (Made w (.bool true)) := by
  have H0 := Lib.hid C0
  have H1 := Lib.hid C1
  have H2 := Lib.hid C2
  have H3 := Lib.hid C3
  clear C0 C1 C2 C3
  have hB : Below w.heap.size w (w.alloc (.cells #[.string s, .string t] 22)) := (Below.refl _ _).alloc (Nat.le_refl _) _
  have hcell : ∀ k, k < 2 → (w.alloc (.cells #[.string s, .string t] 22)).cell? ⟨w.heap.size, k, none⟩ = some (.string (if k = 0 then s else t)) := fun k hk => by
    rw [World.cell?_alloc_mark]
    rcases (show k = 0 ∨ k = 1 by omega) with rfl | rfl <;> rfl
  have HF := Lib.hid (few_yes w.heap.size 2 2 (fun k => if k = 0 then s else t) _ hcell (by omega) (fun k _ => by show (if k = 0 then s else t).size ≤ 200; split <;> assumption))
  clear hcell
  go_enter Try.func6, Try.ntmps6
  go_wp2_with fail
  refine HF.out.mono ?_
  rintro e w' ⟨rfl, rfl⟩
  go_wp2_with (first
    | (go_at_call 38; refine (H0.out _).mono ?_; rintro e w' ⟨rfl, hb⟩; replace hB := hB.trans (hb.mono hB.size); clear hb)
    | (go_at_call 39; refine (H1.out _).mono ?_; rintro e w' ⟨rfl, hb⟩; replace hB := hB.trans (hb.mono hB.size); clear hb)
    | (go_at_call 40; refine (H2.out _).mono ?_; rintro e w' ⟨rfl, hb⟩; replace hB := hB.trans (hb.mono hB.size); clear hb)
    | (go_at_call 41; refine (H3.out _).mono ?_; rintro e w' ⟨rfl, hb⟩; replace hB := hB.trans (hb.mono hB.size); clear hb)
    | (go_at_call 22; refine (awake_any _).mono ?_; rintro e w' ⟨rfl, hb⟩; replace hB := hB.trans (hb.mono hB.size); clear hb))
  go_ret
  exact ⟨rfl, hB⟩

set_option maxHeartbeats 1000000 in
set_option maxRecDepth 100000 in
theorem muls_big (s t : ByteArray) (w : World) (hs : s.size ≤ 9223372036854775807) (ht : t.size ≤ 9223372036854775807) (h : 200 < s.size ∨ 200 < t.size) :
    Calls Try.prog 6 #[.string s, .string t] w (Made w (.bool true)) := by
  have hB : Below w.heap.size w (w.alloc (.cells #[.string s, .string t] 22)) := (Below.refl _ _).alloc (Nat.le_refl _) _
  have hcell : ∀ k, k < 2 → (w.alloc (.cells #[.string s, .string t] 22)).cell? ⟨w.heap.size, k, none⟩ = some (.string (if k = 0 then s else t)) := fun k hk => by
    rw [World.cell?_alloc_mark]
    rcases (show k = 0 ∨ k = 1 by omega) with rfl | rfl <;> rfl
  have HF := Lib.hid (few_no w.heap.size 2 2 (fun k => if k = 0 then s else t) _ hcell (by omega) (fun k _ => by show (if k = 0 then s else t).size ≤ _; split <;> assumption) (by
    rcases h with h | h
    · exact ⟨0, by omega, h⟩
    · exact ⟨1, by omega, h⟩))
  clear hcell h
  go_enter Try.func6, Try.ntmps6
  go_wp2_with fail
  refine HF.out.mono ?_
  rintro e w' ⟨rfl, rfl⟩
  go_wp2_with (go_at_call 22; refine (awake_any _).mono ?_; rintro e w' ⟨rfl, hb⟩; replace hB := hB.trans (hb.mono hB.size); clear hb)
  go_ret
  exact ⟨rfl, hB⟩

theorem law_multiplies (s t : ByteArray) (w : World) (hs : s.size ≤ 9223372036854775807) (ht : t.size ≤ 9223372036854775807) :
    Calls Try.prog 6 #[.string s, .string t] w (Made w (.bool true)) := by
  by_cases hbig : 200 < s.size ∨ 200 < t.size
  · exact muls_big s t w hs ht hbig
  · have h1 : s.size ≤ 200 := by omega
    have h2 : t.size ≤ 200 := by omega
    by_cases hv : validB s = true ∧ validB t = true
    · obtain ⟨a, ha, rfl⟩ := bs_of_valid hv.1
      obtain ⟨b, hb, rfl⟩ := bs_of_valid hv.2
      have hmul : ∃ (S : ByteArray) (e0 : Int), (∀ W, Calls Try.prog 38 #[.string (bs a), .string (bs b)] W (Made W (.tuple #[.string S, .int .i64 e0]))) ∧ (∀ W, Calls Try.prog 39 #[.string (bs a), .string (bs b)] W (Made W (.tuple #[.string S, .int .i64 e0]))) := by
        by_cases h : a * b < Top
        · exact ⟨_, _, fun W => mul_ok ha hb h W, fun W => rmul_ok ha hb h W⟩
        · exact ⟨_, _, fun W => mul_long ha hb (by omega) W, fun W => rmul_long ha hb (by omega) W⟩
      have hdiv : ∃ (Q R : ByteArray) (e0 : Int), (∀ W, Calls Try.prog 40 #[.string (bs a), .string (bs b)] W (Made W (.tuple #[.string Q, .string R, .int .i64 e0]))) ∧ (∀ W, Calls Try.prog 41 #[.string (bs a), .string (bs b)] W (Made W (.tuple #[.string Q, .string R, .int .i64 e0]))) := by
        by_cases h : b = 0
        · subst h
          exact ⟨_, _, _, fun W => (divmod_zero ha W).mono (fun _ _ h => same_made h), fun W => (rdivmod_zero ha W).mono (fun _ _ h => same_made h)⟩
        · exact ⟨_, _, _, fun W => divmod_ok ha hb h W, fun W => rdivmod_ok ha hb h W⟩
      obtain ⟨S, e0, a1, a2⟩ := hmul
      obtain ⟨Q, R, e1, d1, d2⟩ := hdiv
      exact muls_core (bs a) (bs b) w S Q R e0 e1 h1 h2 a1 a2 d1 d2
    · have hv : validB s = false ∨ validB t = false := by
        rcases h3 : validB s with _ | _
        · exact .inl rfl
        · right
          rcases h4 : validB t with _ | _
          · rfl
          · exact absurd ⟨h3, h4⟩ hv
      exact muls_core s t w _ _ _ _ _ h1 h2 (fun W => (mul_no s t W hs ht hv).mono (fun _ _ h => same_made h)) (fun W => (rmul_no s t W hs ht hv).mono (fun _ _ h => same_made h)) (fun W => (divmod_no s t W hs ht hv).mono (fun _ _ h => same_made h)) (fun W => (rdivmod_no s t W hs ht hv).mono (fun _ _ h => same_made h))
end Go.Proofs.Ytkhmihemgbaadaa
