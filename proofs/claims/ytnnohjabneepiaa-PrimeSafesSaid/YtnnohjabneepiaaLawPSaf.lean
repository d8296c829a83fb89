/-
  The law of dominolaw04.PrimeSafes.
-/
import Derived.Test.YtnnohjabneepiaaPriP
import Derived.Test.YtnnohjabneepiaaPriS
namespace Go.Proofs.Ytnnohjabneepiaa
open Go.RowKit Num

set_option maxHeartbeats 1000000 in
set_option maxRecDepth 100000 in
theorem psaf_long (s : ByteArray) (w : World) (hs : s.size ≤ 9223372036854775807) (h : 200 < s.size) :
    Calls Try.prog 9 #[.string s] w (Made w (.bool true)) := by
  have HW := Lib.hid awake4
  go_enter Try.func9, Try.ntmps9
  go_wp2_with fail
  refine (HW.out _).mono ?_
  rintro e w3 ⟨rfl, hb⟩
  go_wp2
  go_ret
  exact ⟨rfl, hb⟩

set_option maxHeartbeats 1000000 in
set_option maxRecDepth 100000 in
theorem psaf_core (s : ByteArray) (b : Bool) (c : Int) (w : World) (hs : s.size ≤ 200)
    (h1 : ∀ w, Calls Try.prog 22 #[.string s] w (Made w (.tuple #[.bool b, .int .i64 c])))
    (h2 : ∀ w, Calls Try.prog 23 #[.string s] w (Made w (.tuple #[.bool b, .int .i64 c]))) :
    Calls Try.prog 9 #[.string s] w (Made w (.bool true)) := by
  have H1 := Lib.hid h1
  have H2 := Lib.hid h2
  have HW := Lib.hid awake4
  have HV : Below w.heap.size w w := Below.refl _ _
  clear h1 h2
  cases b
  all_goals
    go_enter Try.func9, Try.ntmps9
    go_wp2_with fail
    refine (H1.out _).mono ?_
    rintro e u1 ⟨rfl, hb⟩
    replace HV := HV.trans (hb.mono HV.size)
    clear hb
    go_wp2_with fail
    refine (H2.out _).mono ?_
    rintro e u2 ⟨rfl, hb⟩
    replace HV := HV.trans (hb.mono HV.size)
    clear hb
    go_wp2_with fail
    refine (HW.out _).mono ?_
    rintro e u3 ⟨rfl, hb⟩
    replace HV := HV.trans (hb.mono HV.size)
    clear hb
    go_wp2_with fail
    go_ret
    exact ⟨rfl, HV⟩

theorem law_psaf (s : ByteArray) (w : World) (hs : s.size ≤ 9223372036854775807) :
    Calls Try.prog 9 #[.string s] w (Made w (.bool true)) := by
  by_cases h1 : s.size ≤ 200
  · rcases hv : validB s with _ | _
    · exact psaf_core s false 3 w h1 (fun W => psafe_err s 3 W (.inl rfl) (fun W => psmall_form s W hs hv)) (fun W => rsafe_err s 3 W (.inl rfl) (fun W => ris_form s W hs hv))
    · by_cases h8 : s.size ≤ 8
      · obtain ⟨n, hn, rfl⟩ := bs_of_valid hv
        have h64 : n < 18446744073709551616 := bs_le.1 h8
        exact psaf_core _ _ 0 w h1 (fun W => psafe_ok n W h64) (fun W => rsafe_ok n W h64)
      · exact psaf_core s false 5 w h1 (fun W => psafe_err s 5 W (.inr rfl) (fun W => psmall_long s W hs hv (by omega))) (fun W => rsafe_err s 5 W (.inr rfl) (fun W => ris_long s W (by omega) hv (by omega)))
  · exact psaf_long s w hs (by omega)
end Go.Proofs.Ytnnohjabneepiaa
