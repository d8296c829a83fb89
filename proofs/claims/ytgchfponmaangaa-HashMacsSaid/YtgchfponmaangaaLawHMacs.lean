/-
  dominolaw05.HashMacs returns true: the walk.
-/
import Derived.Test.YtgchfponmaangaaShaX
import Derived.Test.YtgchfponmaangaaShaJ
namespace Go.Proofs.Ytgchfponmaangaa
open Go.RowKit
set_option maxRecDepth 100000 in
set_option maxHeartbeats 1600000 in
theorem law_hmacs_big (k s : ByteArray) (hk : k.size ≤ 9223372036854775807) (hs : s.size ≤ 9223372036854775807) (h : 300 < k.size ∨ (k.size ≤ 300 ∧ 600 < s.size)) (w : World) : Calls Try.prog 5 #[.string k, .string s] w fun e w' => e = .returned (.bool true) ∧ Below w.heap.size w w' := by
  have CA := Lib.hid (fun W => awake_ok W)
  rcases h with h | ⟨h0, h⟩
  all_goals
    go_enter Try.func5, Try.ntmps5
    go_wp2_with fail
    refine (CA.out _).mono ?_
    rintro e w1 ⟨rfl, hb⟩
    go_wp2
    go_ret
    exact ⟨rfl, hb⟩
set_option maxRecDepth 100000 in
set_option maxHeartbeats 1600000 in
theorem law_hmacs_small (k s : ByteArray) (hk : k.size ≤ 300) (hs : s.size ≤ 600) (w : World) : Calls Try.prog 5 #[.string k, .string s] w fun e w' => e = .returned (.bool true) ∧ Below w.heap.size w w' := by
  have CA := Lib.hid (fun W => awake_ok W)
  have C1 := Lib.hid (fun W => mac_ok k s (by omega) (by omega) W)
  have C2 := Lib.hid (fun W => rmac_ok k s (by omega) (by omega) W)
  go_enter Try.func5, Try.ntmps5
  go_wp2_with fail
  refine (C1.out _).mono ?_
  rintro e w1 ⟨rfl, hb⟩
  have HB := hb
  clear hb
  go_wp2_with fail
  refine (C2.out _).mono ?_
  rintro e w2 ⟨rfl, hb⟩
  replace HB := HB.trans (hb.mono HB.size)
  clear hb
  go_wp2_with fail
  refine (CA.out _).mono ?_
  rintro e w3 ⟨rfl, hb⟩
  replace HB := HB.trans (hb.mono HB.size)
  clear hb
  go_wp2
  go_ret
  exact ⟨rfl, HB⟩
theorem law_hmacs (k s : ByteArray) (w : World) (hk : k.size ≤ 9223372036854775807) (hs : s.size ≤ 9223372036854775807) : Calls Try.prog 5 #[.string k, .string s] w fun e w' => e = .returned (.bool true) ∧ Below w.heap.size w w' := by
  rcases Nat.lt_or_ge 300 k.size with h | h
  · exact law_hmacs_big k s hk hs (.inl h) w
  · rcases Nat.lt_or_ge 600 s.size with g | g
    · exact law_hmacs_big k s hk hs (.inr ⟨h, g⟩) w
    · exact law_hmacs_small k s h g w
end Go.Proofs.Ytgchfponmaangaa
