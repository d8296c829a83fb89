/-
  Contracts of Add, Sub and Cmp for all strings, of natural and of the reference; dominolaw01.NaturalAdds returns true: the walk.
-/
import Derived.Test.YtkhmihemgbaadaaLawA
namespace Go.Proofs.Ytkhmihemgbaadaa
open Go.RowKit Num

set_option maxHeartbeats 400000 in
theorem add_no (s t : ByteArray) (w : World) (hs : s.size ≤ 9223372036854775807) (ht : t.size ≤ 9223372036854775807) (h : validB s = false ∨ validB t = false) :
    Calls Try.prog 33 #[.string s, .string t] w (Same w (.tuple #[.string (bs 0), .int .i64 3])) := by
  have HZ := Lib.hid bs_zero
  by_cases hv : validB s = true
  · have h2 : validB t = false := by rcases h with h | h; (rw [h] at hv; cases hv); exact h
    have V1 := Lib.hid (fun W => valid_any s W hs)
    rw [hv] at V1
    have V2 := Lib.hid (fun W => valid_no h2 W ht)
    clear hv h h2
    go_enter Try.func33, Try.ntmps33
    go_wp2_with fail
    refine (V1.out _).mono ?_
    rintro e w' ⟨rfl, rfl⟩
    go_wp2_with fail
    refine (V2.out _).mono ?_
    rintro e w' ⟨rfl, rfl⟩
    go_wp2
    go_ret2
    exact ⟨by rw [HZ.out]; rfl, rfl⟩
  · have hv : validB s = false := by simpa using hv
    have V1 := Lib.hid (fun W => valid_no hv W hs)
    clear hv h
    go_enter Try.func33, Try.ntmps33
    go_wp2_with fail
    refine (V1.out _).mono ?_
    rintro e w' ⟨rfl, rfl⟩
    go_wp2
    go_ret2
    exact ⟨by rw [HZ.out]; rfl, rfl⟩

set_option maxHeartbeats 400000 in
theorem sub_no (s t : ByteArray) (w : World) (hs : s.size ≤ 9223372036854775807) (ht : t.size ≤ 9223372036854775807) (h : validB s = false ∨ validB t = false) :
    Calls Try.prog 35 #[.string s, .string t] w (Same w (.tuple #[.string (bs 0), .int .i64 3])) := by
  have HZ := Lib.hid bs_zero
  by_cases hv : validB s = true
  · have h2 : validB t = false := by rcases h with h | h; (rw [h] at hv; cases hv); exact h
    have V1 := Lib.hid (fun W => valid_any s W hs)
    rw [hv] at V1
    have V2 := Lib.hid (fun W => valid_no h2 W ht)
    clear hv h h2
    go_enter Try.func35, Try.ntmps35
    go_wp2_with fail
    refine (V1.out _).mono ?_
    rintro e w' ⟨rfl, rfl⟩
    go_wp2_with fail
    refine (V2.out _).mono ?_
    rintro e w' ⟨rfl, rfl⟩
    go_wp2
    go_ret2
    exact ⟨by rw [HZ.out]; rfl, rfl⟩
  · have hv : validB s = false := by simpa using hv
    have V1 := Lib.hid (fun W => valid_no hv W hs)
    clear hv h
    go_enter Try.func35, Try.ntmps35
    go_wp2_with fail
    refine (V1.out _).mono ?_
    rintro e w' ⟨rfl, rfl⟩
    go_wp2
    go_ret2
    exact ⟨by rw [HZ.out]; rfl, rfl⟩

set_option maxHeartbeats 400000 in
theorem cmp_no (s t : ByteArray) (w : World) (hs : s.size ≤ 9223372036854775807) (ht : t.size ≤ 9223372036854775807) (h : validB s = false ∨ validB t = false) :
    Calls Try.prog 32 #[.string s, .string t] w (Same w (.int .i64 0)) := by
  have HZ := Lib.hid bs_zero
  by_cases hv : validB s = true
  · have h2 : validB t = false := by rcases h with h | h; (rw [h] at hv; cases hv); exact h
    have V1 := Lib.hid (fun W => valid_any s W hs)
    rw [hv] at V1
    have V2 := Lib.hid (fun W => valid_no h2 W ht)
    clear hv h h2
    go_enter Try.func32, Try.ntmps32
    go_wp2_with fail
    refine (V1.out _).mono ?_
    rintro e w' ⟨rfl, rfl⟩
    go_wp2_with fail
    refine (V2.out _).mono ?_
    rintro e w' ⟨rfl, rfl⟩
    go_wp2
    go_ret
    exact ⟨by rfl, rfl⟩
  · have hv : validB s = false := by simpa using hv
    have V1 := Lib.hid (fun W => valid_no hv W hs)
    clear hv h
    go_enter Try.func32, Try.ntmps32
    go_wp2_with fail
    refine (V1.out _).mono ?_
    rintro e w' ⟨rfl, rfl⟩
    go_wp2
    go_ret
    exact ⟨by rfl, rfl⟩

set_option maxHeartbeats 400000 in
theorem radd_no (s t : ByteArray) (w : World) (hs : s.size ≤ 9223372036854775807) (ht : t.size ≤ 9223372036854775807) (h : validB s = false ∨ validB t = false) :
    Calls Try.prog 34 #[.string s, .string t] w (Same w (.tuple #[.string (bs 0), .int .i64 3])) := by
  have HZ := Lib.hid bs_zero
  by_cases hv : validB s = true
  · have h2 : validB t = false := by rcases h with h | h; (rw [h] at hv; cases hv); exact h
    have V1 := Lib.hid (fun W => rvalid_any s W hs)
    rw [hv] at V1
    have V2 := Lib.hid (fun W => rvalid_no h2 W ht)
    clear hv h h2
    go_enter Try.func34, Try.ntmps34
    go_wp2_with fail
    refine (V1.out _).mono ?_
    rintro e w' ⟨rfl, rfl⟩
    go_wp2_with fail
    refine (V2.out _).mono ?_
    rintro e w' ⟨rfl, rfl⟩
    go_wp2
    go_ret2
    exact ⟨by rw [HZ.out]; rfl, rfl⟩
  · have hv : validB s = false := by simpa using hv
    have V1 := Lib.hid (fun W => rvalid_no hv W hs)
    clear hv h
    go_enter Try.func34, Try.ntmps34
    go_wp2_with fail
    refine (V1.out _).mono ?_
    rintro e w' ⟨rfl, rfl⟩
    go_wp2
    go_ret2
    exact ⟨by rw [HZ.out]; rfl, rfl⟩

set_option maxHeartbeats 400000 in
theorem rsub_no (s t : ByteArray) (w : World) (hs : s.size ≤ 9223372036854775807) (ht : t.size ≤ 9223372036854775807) (h : validB s = false ∨ validB t = false) :
    Calls Try.prog 36 #[.string s, .string t] w (Same w (.tuple #[.string (bs 0), .int .i64 3])) := by
  have HZ := Lib.hid bs_zero
  by_cases hv : validB s = true
  · have h2 : validB t = false := by rcases h with h | h; (rw [h] at hv; cases hv); exact h
    have V1 := Lib.hid (fun W => rvalid_any s W hs)
    rw [hv] at V1
    have V2 := Lib.hid (fun W => rvalid_no h2 W ht)
    clear hv h h2
    go_enter Try.func36, Try.ntmps36
    go_wp2_with fail
    refine (V1.out _).mono ?_
    rintro e w' ⟨rfl, rfl⟩
    go_wp2_with fail
    refine (V2.out _).mono ?_
    rintro e w' ⟨rfl, rfl⟩
    go_wp2
    go_ret2
    exact ⟨by rw [HZ.out]; rfl, rfl⟩
  · have hv : validB s = false := by simpa using hv
    have V1 := Lib.hid (fun W => rvalid_no hv W hs)
    clear hv h
    go_enter Try.func36, Try.ntmps36
    go_wp2_with fail
    refine (V1.out _).mono ?_
    rintro e w' ⟨rfl, rfl⟩
    go_wp2
    go_ret2
    exact ⟨by rw [HZ.out]; rfl, rfl⟩

set_option maxHeartbeats 400000 in
theorem rcmp_no (s t : ByteArray) (w : World) (hs : s.size ≤ 9223372036854775807) (ht : t.size ≤ 9223372036854775807) (h : validB s = false ∨ validB t = false) :
    Calls Try.prog 37 #[.string s, .string t] w (Same w (.int .i64 0)) := by
  have HZ := Lib.hid bs_zero
  by_cases hv : validB s = true
  · have h2 : validB t = false := by rcases h with h | h; (rw [h] at hv; cases hv); exact h
    have V1 := Lib.hid (fun W => rvalid_any s W hs)
    rw [hv] at V1
    have V2 := Lib.hid (fun W => rvalid_no h2 W ht)
    clear hv h h2
    go_enter Try.func37, Try.ntmps37
    go_wp2_with fail
    refine (V1.out _).mono ?_
    rintro e w' ⟨rfl, rfl⟩
    go_wp2_with fail
    refine (V2.out _).mono ?_
    rintro e w' ⟨rfl, rfl⟩
    go_wp2
    go_ret
    exact ⟨by rfl, rfl⟩
  · have hv : validB s = false := by simpa using hv
    have V1 := Lib.hid (fun W => rvalid_no hv W hs)
    clear hv h
    go_enter Try.func37, Try.ntmps37
    go_wp2_with fail
    refine (V1.out _).mono ?_
    rintro e w' ⟨rfl, rfl⟩
    go_wp2
    go_ret
    exact ⟨by rfl, rfl⟩

theorem size_bound' {b x k : Nat} (hb : (bs b).size ≤ k) (hx : x ≤ 2 * b + 1) : (bs x).size ≤ k + 1 := by
  rw [bs_le] at hb ⊢
  rw [Nat.pow_succ]
  have := Nat.pow_pos (a := 256) (n := k) (by decide)
  omega
theorem same_made {w : World} {v : Value} {e : Ending} {w' : World} (h : Same w v e w') : Made w v e w' := by
  obtain ⟨rfl, rfl⟩ := h
  exact ⟨rfl, Below.refl _ _⟩
theorem rfit_ok {n : Nat} (h : n < Top) (w : World) : Calls Try.prog 89 #[.string (bs n)] w (Same w (.tuple #[.string (bs n), .int .i64 0])) := by
  have h1 := bs_small h
  clear h
  go_enter Try.func89, Try.ntmps89
  go_wp2
  go_ret2
  exact ⟨rfl, rfl⟩
theorem rfit_long {n : Nat} (h : Top ≤ n) (h2 : (bs n).size ≤ 100000) (w : World) : Calls Try.prog 89 #[.string (bs n)] w (Same w (.tuple #[.string (bs 0), .int .i64 5])) := by
  have h1 : 128 < (bs n).size := by
    apply Decidable.byContradiction
    intro hc
    have := bs_le.1 (show (bs n).size ≤ 128 by omega)
    unfold Top at h
    omega
  have HZ := Lib.hid bs_zero
  clear h
  go_enter Try.func89, Try.ntmps89
  go_wp2
  go_ret2
  exact ⟨by rw [HZ.out]; rfl, rfl⟩

set_option maxHeartbeats 400000 in
theorem radd_ok {a b : Nat} (ha : a < Top) (hb : b < Top) (hv : a + b < Top) (w : World) :
    Calls Try.prog 34 #[.string (bs a), .string (bs b)] w (Made w (.tuple #[.string (bs (a + b)), .int .i64 0])) := by
  have h1 := bs_small ha
  have h2 := bs_small hb
  have HA := Lib.hid ha
  have HB := Lib.hid hb
  have HZ := Lib.hid bs_zero
  have HV := Lib.hid hv
  clear hv
  clear ha hb
  go_enter Try.func34, Try.ntmps34
  go_wp2_with fail
  refine (rvalid_yes HA.out _).mono ?_
  rintro e w' ⟨rfl, rfl⟩
  go_wp2_with fail
  refine (rvalid_yes HB.out _).mono ?_
  rintro e w' ⟨rfl, rfl⟩
  go_wp2_with fail
  refine (plus_any a b _ (by omega) (by omega)).mono ?_
  rintro e w1 ⟨rfl, hb1⟩
  go_wp2_with fail
  refine (rfit_ok HV.out _).mono ?_
  rintro e w' ⟨rfl, rfl⟩
  go_wp2
  go_ret2
  exact ⟨rfl, hb1⟩

set_option maxHeartbeats 400000 in
theorem radd_long {a b : Nat} (ha : a < Top) (hb : b < Top) (hv : Top ≤ a + b) (w : World) :
    Calls Try.prog 34 #[.string (bs a), .string (bs b)] w (Made w (.tuple #[.string (bs 0), .int .i64 5])) := by
  have h1 := bs_small ha
  have h2 := bs_small hb
  have HA := Lib.hid ha
  have HB := Lib.hid hb
  have HZ := Lib.hid bs_zero
  have HV := Lib.hid hv
  have hsz : (bs (a + b)).size ≤ 100000 := by
    rcases Nat.le_total a b with g | g
    · have := size_bound' (k := 128) h2 (show a + b ≤ 2 * b + 1 by omega); omega
    · have := size_bound' (k := 128) h1 (show a + b ≤ 2 * a + 1 by omega); omega
  clear hv
  clear ha hb
  go_enter Try.func34, Try.ntmps34
  go_wp2_with fail
  refine (rvalid_yes HA.out _).mono ?_
  rintro e w' ⟨rfl, rfl⟩
  go_wp2_with fail
  refine (rvalid_yes HB.out _).mono ?_
  rintro e w' ⟨rfl, rfl⟩
  go_wp2_with fail
  refine (plus_any a b _ (by omega) (by omega)).mono ?_
  rintro e w1 ⟨rfl, hb1⟩
  go_wp2_with fail
  refine (rfit_long HV.out hsz _).mono ?_
  rintro e w' ⟨rfl, rfl⟩
  go_wp2
  go_ret2
  exact ⟨rfl, hb1⟩

set_option maxHeartbeats 400000 in
theorem rsub_ok {a b : Nat} (ha : a < Top) (hb : b < Top) (hv : b ≤ a) (w : World) :
    Calls Try.prog 36 #[.string (bs a), .string (bs b)] w (Made w (.tuple #[.string (bs (a - b)), .int .i64 0])) := by
  have h1 := bs_small ha
  have h2 := bs_small hb
  have HA := Lib.hid ha
  have HB := Lib.hid hb
  have HZ := Lib.hid bs_zero
  have HV := Lib.hid hv
  have hc : 0 ≤ cmpN a b := by unfold cmpN; rw [if_neg (by omega)]; split <;> omega
  clear hv
  clear ha hb
  go_enter Try.func36, Try.ntmps36
  go_wp2_with fail
  refine (rvalid_yes HA.out _).mono ?_
  rintro e w' ⟨rfl, rfl⟩
  go_wp2_with fail
  refine (rvalid_yes HB.out _).mono ?_
  rintro e w' ⟨rfl, rfl⟩
  go_wp2_with fail
  refine (order_any a b _ (by omega)).mono ?_
  rintro e w1 ⟨rfl, hb1⟩
  go_wp2_with fail
  refine (minus_any a b _ (by omega) (by omega) HV.out).mono ?_
  rintro e w2 ⟨rfl, hb2⟩
  go_wp2
  go_ret2
  exact ⟨rfl, hb1.trans (hb2.mono hb1.size)⟩

set_option maxHeartbeats 400000 in
theorem rsub_range {a b : Nat} (ha : a < Top) (hb : b < Top) (hv : a < b) (w : World) :
    Calls Try.prog 36 #[.string (bs a), .string (bs b)] w (Made w (.tuple #[.string (bs 0), .int .i64 2])) := by
  have h1 := bs_small ha
  have h2 := bs_small hb
  have HA := Lib.hid ha
  have HB := Lib.hid hb
  have HZ := Lib.hid bs_zero
  have hc : cmpN a b < 0 := by unfold cmpN; rw [if_pos hv]; omega
  clear hv
  clear ha hb
  go_enter Try.func36, Try.ntmps36
  go_wp2_with fail
  refine (rvalid_yes HA.out _).mono ?_
  rintro e w' ⟨rfl, rfl⟩
  go_wp2_with fail
  refine (rvalid_yes HB.out _).mono ?_
  rintro e w' ⟨rfl, rfl⟩
  go_wp2_with fail
  refine (order_any a b _ (by omega)).mono ?_
  rintro e w1 ⟨rfl, hb1⟩
  go_wp2
  go_ret2
  exact ⟨by rw [HZ.out]; rfl, hb1⟩

set_option maxHeartbeats 1000000 in
set_option maxRecDepth 100000 in
theorem adds_core (s t : ByteArray) (w : World) (S D : ByteArray) (e0 e1 c : Int) (hs : s.size ≤ 200) (ht : t.size ≤ 200)
    (C0 : ∀ W, Calls Try.prog 33 #[.string s, .string t] W (Made W (.tuple #[.string S, .int .i64 e0])))
    (C1 : ∀ W, Calls Try.prog 34 #[.string s, .string t] W (Made W (.tuple #[.string S, .int .i64 e0])))
    (C2 : ∀ W, Calls Try.prog 35 #[.string s, .string t] W (Made W (.tuple #[.string D, .int .i64 e1])))
    (C3 : ∀ W, Calls Try.prog 36 #[.string s, .string t] W (Made W (.tuple #[.string D, .int .i64 e1])))
    (C4 : ∀ W, Calls Try.prog 32 #[.string s, .string t] W (Made W (.int .i64 c)))
    (C5 : ∀ W, Calls Try.prog 37 #[.string s, .string t] W (Made W (.int .i64 c))) :
    Calls Try.prog 5 #[.string s, .string t] w (Made w (.bool true)) := by
  have H0 := Lib.hid C0
  have H1 := Lib.hid C1
  have H2 := Lib.hid C2
  have H3 := Lib.hid C3
  have H4 := Lib.hid C4
  have H5 := Lib.hid C5
  clear C0 C1 C2 C3 C4 C5
  have hB : Below w.heap.size w (w.alloc (.cells #[.string s, .string t] 22)) := (Below.refl _ _).alloc (Nat.le_refl _) _
  have hcell : ∀ k, k < 2 → (w.alloc (.cells #[.string s, .string t] 22)).cell? ⟨w.heap.size, k, none⟩ = some (.string (if k = 0 then s else t)) := fun k hk => by
    rw [World.cell?_alloc_mark]
    rcases (show k = 0 ∨ k = 1 by omega) with rfl | rfl <;> rfl
  have HF := Lib.hid (few_yes w.heap.size 2 2 (fun k => if k = 0 then s else t) _ hcell (by omega) (fun k _ => by show (if k = 0 then s else t).size ≤ 200; split <;> assumption))
  clear hcell
  go_enter Try.func5, Try.ntmps5
  go_wp2_with fail
  refine HF.out.mono ?_
  rintro e w' ⟨rfl, rfl⟩
  go_wp2_with (first
    | (go_at_call 33; refine (H0.out _).mono ?_; rintro e w' ⟨rfl, hb⟩; replace hB := hB.trans (hb.mono hB.size); clear hb)
    | (go_at_call 34; refine (H1.out _).mono ?_; rintro e w' ⟨rfl, hb⟩; replace hB := hB.trans (hb.mono hB.size); clear hb)
    | (go_at_call 35; refine (H2.out _).mono ?_; rintro e w' ⟨rfl, hb⟩; replace hB := hB.trans (hb.mono hB.size); clear hb)
    | (go_at_call 36; refine (H3.out _).mono ?_; rintro e w' ⟨rfl, hb⟩; replace hB := hB.trans (hb.mono hB.size); clear hb)
    | (go_at_call 32; refine (H4.out _).mono ?_; rintro e w' ⟨rfl, hb⟩; replace hB := hB.trans (hb.mono hB.size); clear hb)
    | (go_at_call 37; refine (H5.out _).mono ?_; rintro e w' ⟨rfl, hb⟩; replace hB := hB.trans (hb.mono hB.size); clear hb)
    | (go_at_call 22; refine (awake_any _).mono ?_; rintro e w' ⟨rfl, hb⟩; replace hB := hB.trans (hb.mono hB.size); clear hb))
  go_ret
  exact ⟨rfl, hB⟩

set_option maxHeartbeats 1000000 in
set_option maxRecDepth 100000 in
theorem adds_big (s t : ByteArray) (w : World) (hs : s.size ≤ 9223372036854775807) (ht : t.size ≤ 9223372036854775807) (h : 200 < s.size ∨ 200 < t.size) :
    Calls Try.prog 5 #[.string s, .string t] w (Made w (.bool true)) := by
  have hB : Below w.heap.size w (w.alloc (.cells #[.string s, .string t] 22)) := (Below.refl _ _).alloc (Nat.le_refl _) _
  have hcell : ∀ k, k < 2 → (w.alloc (.cells #[.string s, .string t] 22)).cell? ⟨w.heap.size, k, none⟩ = some (.string (if k = 0 then s else t)) := fun k hk => by
    rw [World.cell?_alloc_mark]
    rcases (show k = 0 ∨ k = 1 by omega) with rfl | rfl <;> rfl
  have HF := Lib.hid (few_no w.heap.size 2 2 (fun k => if k = 0 then s else t) _ hcell (by omega) (fun k _ => by show (if k = 0 then s else t).size ≤ _; split <;> assumption) (by
    rcases h with h | h
    · exact ⟨0, by omega, h⟩
    · exact ⟨1, by omega, h⟩))
  clear hcell h
  go_enter Try.func5, Try.ntmps5
  go_wp2_with fail
  refine HF.out.mono ?_
  rintro e w' ⟨rfl, rfl⟩
  go_wp2_with (go_at_call 22; refine (awake_any _).mono ?_; rintro e w' ⟨rfl, hb⟩; replace hB := hB.trans (hb.mono hB.size); clear hb)
  go_ret
  exact ⟨rfl, hB⟩

theorem law_adds (s t : ByteArray) (w : World) (hs : s.size ≤ 9223372036854775807) (ht : t.size ≤ 9223372036854775807) :
    Calls Try.prog 5 #[.string s, .string t] w (Made w (.bool true)) := by
  by_cases hbig : 200 < s.size ∨ 200 < t.size
  · exact adds_big s t w hs ht hbig
  · have h1 : s.size ≤ 200 := by omega
    have h2 : t.size ≤ 200 := by omega
    by_cases hv : validB s = true ∧ validB t = true
    · obtain ⟨a, ha, rfl⟩ := bs_of_valid hv.1
      obtain ⟨b, hb, rfl⟩ := bs_of_valid hv.2
      have hc1 := fun W => (cmp_yes ha hb W).mono (fun _ _ h => same_made h)
      have hc2 := fun W => rcmp_yes ha hb W
      have hadd : ∃ (S : ByteArray) (e0 : Int), (∀ W, Calls Try.prog 33 #[.string (bs a), .string (bs b)] W (Made W (.tuple #[.string S, .int .i64 e0]))) ∧ (∀ W, Calls Try.prog 34 #[.string (bs a), .string (bs b)] W (Made W (.tuple #[.string S, .int .i64 e0]))) := by
        by_cases h : a + b < Top
        · exact ⟨_, _, fun W => add_ok ha hb h W, fun W => radd_ok ha hb h W⟩
        · exact ⟨_, _, fun W => add_long ha hb (by omega) W, fun W => radd_long ha hb (by omega) W⟩
      have hsub : ∃ (S : ByteArray) (e0 : Int), (∀ W, Calls Try.prog 35 #[.string (bs a), .string (bs b)] W (Made W (.tuple #[.string S, .int .i64 e0]))) ∧ (∀ W, Calls Try.prog 36 #[.string (bs a), .string (bs b)] W (Made W (.tuple #[.string S, .int .i64 e0]))) := by
        by_cases h : b ≤ a
        · exact ⟨_, _, fun W => sub_ok ha hb h W, fun W => rsub_ok ha hb h W⟩
        · exact ⟨_, _, fun W => (sub_range ha hb (by omega) W).mono (fun _ _ h => same_made h), fun W => rsub_range ha hb (by omega) W⟩
      obtain ⟨S, e0, a1, a2⟩ := hadd
      obtain ⟨D, e1, d1, d2⟩ := hsub
      exact adds_core (bs a) (bs b) w S D e0 e1 _ h1 h2 a1 a2 d1 d2 hc1 hc2
    · have hv : validB s = false ∨ validB t = false := by
        rcases h3 : validB s with _ | _
        · exact .inl rfl
        · right
          rcases h4 : validB t with _ | _
          · rfl
          · exact absurd ⟨h3, h4⟩ hv
      exact adds_core s t w _ _ _ _ _ h1 h2 (fun W => (add_no s t W hs ht hv).mono (fun _ _ h => same_made h)) (fun W => (radd_no s t W hs ht hv).mono (fun _ _ h => same_made h)) (fun W => (sub_no s t W hs ht hv).mono (fun _ _ h => same_made h)) (fun W => (rsub_no s t W hs ht hv).mono (fun _ _ h => same_made h)) (fun W => (cmp_no s t W hs ht hv).mono (fun _ _ h => same_made h)) (fun W => (rcmp_no s t W hs ht hv).mono (fun _ _ h => same_made h))
end Go.Proofs.Ytkhmihemgbaadaa
