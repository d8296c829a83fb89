/-
  The law of dominolaw04.PrimeStrong.
-/
import Derived.Test.YtnnohjabneepiaaPriP
import Derived.Test.YtnnohjabneepiaaPriS
namespace Go.Proofs.Ytnnohjabneepiaa
open Go.RowKit Num

set_option maxHeartbeats 1000000 in
set_option maxRecDepth 100000 in
theorem pstr_long (s t : ByteArray) (w : World) (hs : s.size ≤ 9223372036854775807) (ht : t.size ≤ 9223372036854775807) (h : 8 < s.size ∨ (s.size ≤ 8 ∧ 200 < t.size)) :
    Calls Try.prog 5 #[.string s, .string t] w (Made w (.bool true)) := by
  have HW := Lib.hid awake4
  rcases h with h | ⟨h, h'⟩
  all_goals
    go_enter Try.func5, Try.ntmps5
    go_wp2_with fail
    refine (HW.out _).mono ?_
    rintro e w3 ⟨rfl, hb⟩
    go_wp2
    go_ret
    exact ⟨rfl, hb⟩
set_option maxHeartbeats 1000000 in
set_option maxRecDepth 100000 in
theorem pstr_core (s t : ByteArray) (b : Bool) (c : Int) (w : World) (hs : s.size ≤ 8) (ht : t.size ≤ 200)
    (h1 : ∀ w, Calls Try.prog 16 #[.string s, .string t] w (Made w (.tuple #[.bool b, .int .i64 c])))
    (h2 : ∀ w, Calls Try.prog 17 #[.string s, .string t] w (Made w (.tuple #[.bool b, .int .i64 c]))) :
    Calls Try.prog 5 #[.string s, .string t] w (Made w (.bool true)) := by
  have H1 := Lib.hid h1
  have H2 := Lib.hid h2
  have HW := Lib.hid awake4
  have HV : Below w.heap.size w w := Below.refl _ _
  clear h1 h2
  cases b
  all_goals
    go_enter Try.func5, Try.ntmps5
    go_wp2_with fail
    refine (H1.out _).mono ?_
    rintro e u1 ⟨rfl, hb⟩
    replace HV := HV.trans (hb.mono HV.size)
    clear hb
    go_wp2_with fail
    refine (H2.out _).mono ?_
    rintro e u2 ⟨rfl, hb⟩
    replace HV := HV.trans (hb.mono HV.size)
    clear hb
    go_wp2_with fail
    refine (HW.out _).mono ?_
    rintro e u3 ⟨rfl, hb⟩
    replace HV := HV.trans (hb.mono HV.size)
    clear hb
    go_wp2_with fail
    go_ret
    exact ⟨rfl, HV⟩

theorem law_pstr (s t : ByteArray) (w : World) (hs : s.size ≤ 9223372036854775807) (ht : t.size ≤ 9223372036854775807) :
    Calls Try.prog 5 #[.string s, .string t] w (Made w (.bool true)) := by
  by_cases h1 : s.size ≤ 8
  · by_cases h2 : t.size ≤ 200
    · rcases hv : (validB s && validB t) with _ | _
      · exact pstr_core s t false 3 w h1 h2 (fun W => pstrong_form s t W hs ht _ _ rfl rfl hv) (fun W => rstrong_form s t W hs ht _ _ rfl rfl hv)
      · simp only [Bool.and_eq_true] at hv
        obtain ⟨n, hn, rfl⟩ := bs_of_valid hv.1
        obtain ⟨a, ha, rfl⟩ := bs_of_valid hv.2
        have h64 : n < 18446744073709551616 := bs_le.1 h1
        exact pstr_core _ _ _ 0 w h1 h2 (fun W => pstrong_ok n a W hn ha) (fun W => rstrong_ok n a W h64 ha)
    · exact pstr_long s t w hs ht (.inr ⟨h1, by omega⟩)
  · exact pstr_long s t w hs ht (.inl (by omega))
end Go.Proofs.Ytnnohjabneepiaa
