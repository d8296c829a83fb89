/-
  dominolaw01.NaturalParses and dominolaw01.NaturalTexts return true: the walks.
-/
import Derived.Test.YtbkbjjdjgiapdaaParse
import Derived.Test.YtbkbjjdjgiapdaaParC
import Derived.Test.YtbkbjjdjgiapdaaConM
import Derived.Test.YtbkbjjdjgiapdaaFew
namespace Go.Proofs.Ytbkbjjdjgiapdaa
open Go.RowKit Num

theorem pvl_ldk (k n : Nat) : (ldk k n).reverse.foldl (fun a b => a * 10 + (b.toNat - 48)) 0 = n % 10 ^ k := by
  induction k generalizing n with
  | zero => simp [ldk, Nat.mod_one]
  | succ k ih =>
    rw [ldk, List.reverse_cons, List.foldl_append, ih, Nat.pow_succ, Nat.mul_comm (10 ^ k) 10, Nat.mod_mul]
    simp only [List.foldl_cons, List.foldl_nil]
    have : (UInt8.ofNat (48 + n % 10)).toNat = 48 + n % 10 := by rw [UInt8.toNat_ofNat']; omega
    rw [this]
    omega
theorem ldk_digit (k n : Nat) : ∀ b ∈ ldk k n, 48 ≤ b.toNat ∧ b.toNat ≤ 57 := by
  induction k generalizing n with
  | zero => intro b hb; simp [ldk] at hb
  | succ k ih =>
    intro b hb
    rw [ldk, List.mem_cons] at hb
    rcases hb with rfl | hb
    · rw [UInt8.toNat_ofNat']; omega
    · exact ih _ b hb
theorem textOf_list {a : Nat} (h : a ≠ 0) : (textOf a).data.toList = (ldk (dn a) a).reverse := by
  unfold textOf; rw [dtext_pos h]
theorem pv_textOf (a : Nat) : pv (textOf a) (textOf a).size = a := by
  unfold pv
  rw [← size_toList, List.take_length]
  by_cases h : a = 0
  · subst h; unfold textOf; rw [dtext_zero]; rfl
  · rw [textOf_list h, pvl_ldk, Nat.mod_eq_of_lt (dn_lt a)]
theorem textOf_size {a : Nat} (h : a ≠ 0) : (textOf a).size = dn a := by rw [← size_toList, textOf_list h, List.length_reverse, ldk_length]
theorem get_list (s : ByteArray) (k : Nat) (h : k < s.size) : s[k] = s.data.toList[k]'(by rw [size_toList]; exact h) := by
  show s.data[k] = _
  simp
theorem ok_textOf (a : Nat) : okText (textOf a) := by
  by_cases h : a = 0
  · subst h
    unfold textOf
    rw [dtext_zero]
    refine ⟨by decide, fun _ _ => by decide, fun k hk => ?_⟩
    have hk : k < 1 := hk
    obtain rfl : k = 0 := by omega
    exact ⟨by show 48 ≤ (48 : UInt8).toNat; decide, by show (48 : UInt8).toNat ≤ 57; decide⟩
  · have hs := textOf_size h
    have hp := dn_pos h
    refine ⟨by omega, fun h0 e => ?_, fun k hk => ?_⟩
    · exfalso
      rw [get_list _ 0 h0] at e
      have hl := textOf_list h
      have e2 : (textOf a).data.toList[0]'(by rw [size_toList]; exact h0) = UInt8.ofNat (48 + a / 10 ^ (dn a - 1) % 10) := by
        have : ((textOf a).data.toList).getD 0 0 = UInt8.ofNat (48 + a / 10 ^ (dn a - 1) % 10) := by
          rw [hl, ← ldk_get (dn a) a (dn a - 1) (by omega), List.getD_eq_getElem?_getD, List.getD_eq_getElem?_getD, List.getElem?_reverse (by rw [ldk_length]; omega), ldk_length]
          simp
        rw [← this, List.getD_eq_getElem?_getD, List.getElem?_eq_getElem]; rfl
      rw [e2, UInt8.toNat_ofNat'] at e
      have := dig_top h
      omega
    · rw [get_list _ k hk]
      have hm : ∀ b ∈ (textOf a).data.toList, 48 ≤ b.toNat ∧ b.toNat ≤ 57 := fun b hb => by
        rw [textOf_list h, List.mem_reverse] at hb
        exact ldk_digit _ _ _ hb
      exact hm _ (List.getElem_mem _)

set_option maxHeartbeats 1000000 in
set_option maxRecDepth 100000 in
theorem parses_core (s : ByteArray) (w : World) (S : ByteArray) (e0 : Int) (hs : s.size ≤ 400)
    (C0 : ∀ W, Calls Try.prog 18 #[.string s] W (Made W (.tuple #[.string S, .int .i64 e0])))
    (C1 : ∀ W, Calls Try.prog 19 #[.string s] W (Made W (.tuple #[.string S, .int .i64 e0]))) :
    Calls Try.prog 4 #[.string s] w (Made w (.bool true)) := by
  have H0 := Lib.hid C0
  have H1 := Lib.hid C1
  clear C0 C1
  have hB : Below w.heap.size w w := Below.refl _ _
  go_enter Try.func4, Try.ntmps4
  go_wp2_with (first
    | (go_at_call 18; refine (H0.out _).mono ?_; rintro e w' ⟨rfl, hb⟩; replace hB := hB.trans (hb.mono hB.size); clear hb)
    | (go_at_call 19; refine (H1.out _).mono ?_; rintro e w' ⟨rfl, hb⟩; replace hB := hB.trans (hb.mono hB.size); clear hb)
    | (go_at_call 15; refine (awake_any _).mono ?_; rintro e w' ⟨rfl, hb⟩; replace hB := hB.trans (hb.mono hB.size); clear hb))
  go_ret
  exact ⟨rfl, hB⟩
theorem parsed_made {w : World} {s : ByteArray} {e : Ending} {w' : World} (h : Parsed w s e w') : Made w (.tuple #[.string (if pv s s.size < Top then bs (pv s s.size) else bs 0), .int .i64 (if pv s s.size < Top then 0 else 5)]) e w' := by
  obtain ⟨h1, h2⟩ := h
  refine ⟨?_, h2⟩
  rcases h1 with ⟨h, rfl⟩ | ⟨h, rfl⟩
  · rw [if_pos h, if_pos h]
  · rw [if_neg (by omega), if_neg (by omega)]
/-- Parse of both at any string that is not too long. -/
theorem parse_both (s : ByteArray) (hs : s.size ≤ 1000) : ∃ (S : ByteArray) (e0 : Int), (∀ W, Calls Try.prog 18 #[.string s] W (Made W (.tuple #[.string S, .int .i64 e0]))) ∧ (∀ W, Calls Try.prog 19 #[.string s] W (Made W (.tuple #[.string S, .int .i64 e0]))) := by
  by_cases hok : okText s
  · exact ⟨_, _, fun W => (parse_yes s W hs hok).mono (fun _ _ h => parsed_made h), fun W => (rparse_yes s W hs hok).mono (fun _ _ h => parsed_made h)⟩
  · exact ⟨_, _, fun W => (parse_no s W hs hok).mono (fun _ _ h => same_made h), fun W => (rparse_no s W hs hok).mono (fun _ _ h => same_made h)⟩

set_option maxHeartbeats 1000000 in
set_option maxRecDepth 100000 in
theorem law_parses (s : ByteArray) (w : World) (hs : s.size ≤ 9223372036854775807) :
    Calls Try.prog 4 #[.string s] w (Made w (.bool true)) := by
  have hB : Below w.heap.size w w := Below.refl _ _
  by_cases h1 : 400 < s.size
  · go_enter Try.func4, Try.ntmps4
    go_wp2_with (go_at_call 15; refine (awake_any _).mono ?_; rintro e w' ⟨rfl, hb⟩; replace hB := hB.trans (hb.mono hB.size); clear hb)
    go_ret
    exact ⟨rfl, hB⟩
  obtain ⟨S, e0, c0, c1⟩ := parse_both s (by omega)
  exact parses_core s w S e0 (by omega) c0 c1

theorem parse_text {a : Nat} (ha : a < Top) (W : World) : Calls Try.prog 18 #[.string (textOf a)] W (Made W (.tuple #[.string (bs a), .int .i64 0])) := by
  have hsz : (textOf a).size ≤ 1000 := by
    by_cases h : a = 0
    · subst h; unfold textOf; rw [dtext_zero]; decide
    · rw [textOf_size h]
      have := dn_le (Nat.lt_trans ha top_dec)
      unfold E309 at this
      omega
  refine (parse_yes _ W hsz (ok_textOf a)).mono ?_
  intro e w' h
  have := parsed_made h
  rw [pv_textOf, if_pos ha, if_pos ha] at this
  exact this

set_option maxHeartbeats 1000000 in
set_option maxRecDepth 100000 in
theorem texts_yes (a : Nat) (w : World) (ha : a < Top) :
    Calls Try.prog 3 #[.string (bs a)] w (Made w (.bool true)) := by
  have C0 : ∀ W, Calls Try.prog 16 #[.string (bs a)] W (Made W (.tuple #[.string (textOf a), .int .i64 0])) := fun W => by
    by_cases h : a = 0
    · subst h; exact (text_zero W).mono (fun _ _ h => same_made h)
    · exact text_pos ha h W
  have C1 : ∀ W, Calls Try.prog 17 #[.string (bs a)] W (Made W (.tuple #[.string (textOf a), .int .i64 0])) := fun W => by
    by_cases h : a = 0
    · subst h; exact (rtext_zero W).mono (fun _ _ h => same_made h)
    · exact rtext_pos ha h W
  have C2 := fun W => parse_text ha W
  have hs := bs_small ha
  have H0 := Lib.hid C0
  have H1 := Lib.hid C1
  have H2 := Lib.hid C2
  clear C0 C1 C2 ha
  have hB : Below w.heap.size w (w.alloc (.cells #[.string (bs a)] 22)) := (Below.refl _ _).alloc (Nat.le_refl _) _
  have F1 : Calls Try.prog 14 #[.slice (some ⟨w.heap.size, 0, none⟩) 1 1] (w.alloc (.cells #[.string (bs a)] 22)) (Same (w.alloc (.cells #[.string (bs a)] 22)) (.bool true)) :=
    few_yes w.heap.size 1 1 (fun _ => bs a) _ (fun k hk => by
      obtain rfl : k = 0 := by omega
      rw [World.cell?_alloc_mark]; rfl) (by omega) (fun _ _ => by omega)
  have HF := Lib.hid F1
  clear F1
  go_enter Try.func3, Try.ntmps3
  go_wp2_with fail
  refine HF.out.mono ?_
  rintro e w' ⟨rfl, rfl⟩
  go_wp2_with (first
    | (go_at_call 16; refine (H0.out _).mono ?_; rintro e w' ⟨rfl, hb⟩; replace hB := hB.trans (hb.mono hB.size); clear hb)
    | (go_at_call 17; refine (H1.out _).mono ?_; rintro e w' ⟨rfl, hb⟩; replace hB := hB.trans (hb.mono hB.size); clear hb)
    | (go_at_call 18; refine (H2.out _).mono ?_; rintro e w' ⟨rfl, hb⟩; replace hB := hB.trans (hb.mono hB.size); clear hb)
    | (go_at_call 15; refine (awake_any _).mono ?_; rintro e w' ⟨rfl, hb⟩; replace hB := hB.trans (hb.mono hB.size); clear hb))
  go_ret
  exact ⟨rfl, hB⟩

set_option maxHeartbeats 1000000 in
set_option maxRecDepth 100000 in
theorem texts_no (s : ByteArray) (w : World) (hs : s.size ≤ 200) (hv : validB s = false) :
    Calls Try.prog 3 #[.string s] w (Made w (.bool true)) := by
  have H0 := Lib.hid (fun W => text_no s W (by omega) hv)
  have H1 := Lib.hid (fun W => rtext_no s W (by omega) hv)
  clear hv
  have hB : Below w.heap.size w (w.alloc (.cells #[.string s] 22)) := (Below.refl _ _).alloc (Nat.le_refl _) _
  have F1 : Calls Try.prog 14 #[.slice (some ⟨w.heap.size, 0, none⟩) 1 1] (w.alloc (.cells #[.string s] 22)) (Same (w.alloc (.cells #[.string s] 22)) (.bool true)) :=
    few_yes w.heap.size 1 1 (fun _ => s) _ (fun k hk => by
      obtain rfl : k = 0 := by omega
      rw [World.cell?_alloc_mark]; rfl) (by omega) (fun _ _ => hs)
  have HF := Lib.hid F1
  clear F1
  go_enter Try.func3, Try.ntmps3
  go_wp2_with fail
  refine HF.out.mono ?_
  rintro e w' ⟨rfl, rfl⟩
  go_wp2_with (first
    | (go_at_call 16; refine (H0.out _).mono ?_; rintro e w' ⟨rfl, rfl⟩)
    | (go_at_call 17; refine (H1.out _).mono ?_; rintro e w' ⟨rfl, rfl⟩)
    | (go_at_call 15; refine (awake_any _).mono ?_; rintro e w' ⟨rfl, hb⟩; replace hB := hB.trans (hb.mono hB.size); clear hb))
  go_ret
  exact ⟨rfl, hB⟩

set_option maxHeartbeats 1000000 in
set_option maxRecDepth 100000 in
theorem law_texts (s : ByteArray) (w : World) (hm : s.size ≤ 9223372036854775807) :
    Calls Try.prog 3 #[.string s] w (Made w (.bool true)) := by
  rcases Nat.lt_or_ge 200 s.size with hs | hs
  · have hB : Below w.heap.size w (w.alloc (.cells #[.string s] 22)) := (Below.refl _ _).alloc (Nat.le_refl _) _
    have F1 : Calls Try.prog 14 #[.slice (some ⟨w.heap.size, 0, none⟩) 1 1] (w.alloc (.cells #[.string s] 22)) (Same (w.alloc (.cells #[.string s] 22)) (.bool false)) :=
      few_no w.heap.size 1 1 (fun _ => s) _ (fun k hk => by
        obtain rfl : k = 0 := by omega
        rw [World.cell?_alloc_mark]; rfl) (by omega) (fun _ _ => hm) ⟨0, by omega, hs⟩
    have HF := Lib.hid F1
    clear F1
    go_enter Try.func3, Try.ntmps3
    go_wp2_with fail
    refine HF.out.mono ?_
    rintro e w' ⟨rfl, rfl⟩
    go_wp2_with (go_at_call 15; refine (awake_any _).mono ?_; rintro e w' ⟨rfl, hb⟩; replace hB := hB.trans (hb.mono hB.size); clear hb)
    go_ret
    exact ⟨rfl, hB⟩
  · rcases hv : validB s with _ | _
    · exact texts_no s w hs hv
    · obtain ⟨a, ha, rfl⟩ := bs_of_valid hv
      exact texts_yes a w ha
end Go.Proofs.Ytbkbjjdjgiapdaa
