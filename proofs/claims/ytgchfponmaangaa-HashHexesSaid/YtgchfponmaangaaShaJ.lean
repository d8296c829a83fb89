/-
  dominolaw05.awake returns true.
-/
import Derived.Test.YtgchfponmaangaaShaI
import Derived.Test.YtgchfponmaangaaShaW
namespace Go.Proofs.Ytgchfponmaangaa
open Go.RowKit
theorem sum_of (s : ByteArray) (A B : List UInt8) (h : shaL A = B) (hs : s.data.toList = A) (hl : A.length ≤ 1000) (w : World) :
    Calls Try.prog 10 #[.string s] w fun e w' => e = .returned (.string ⟨B.toArray⟩) ∧ Below w.heap.size w w' := by
  subst h
  exact sum_bytes A s hs (by omega) w
theorem hex_of (A B : List UInt8) (h : hexL A = B) (hl : A.length ≤ 1000) (w : World) :
    Calls Try.prog 12 #[.string ⟨A.toArray⟩] w fun e w' => e = .returned (.string ⟨B.toArray⟩) ∧ Below w.heap.size w w' := by
  subst h
  exact hex_ok ⟨A.toArray⟩ (by rw [← size_toList]; show A.length ≤ _; omega) w
theorem mac_of (K A B : List UInt8) (h : macL K A = B) (hk : K.length ≤ 1000) (hl : A.length ≤ 1000) (w : World) :
    Calls Try.prog 14 #[.string ⟨K.toArray⟩, .string ⟨A.toArray⟩] w fun e w' => e = .returned (.string ⟨B.toArray⟩) ∧ Below w.heap.size w w' := by
  subst h
  exact mac_ok ⟨K.toArray⟩ ⟨A.toArray⟩ (by rw [← size_toList]; show K.length ≤ _; omega) (by rw [← size_toList]; show A.length ≤ _; omega) w
set_option maxRecDepth 100000 in
set_option maxHeartbeats 1600000 in
theorem awake_ok (w : World) : Calls Try.prog 9 #[] w fun e w' => e = .returned (.bool true) ∧ Below w.heap.size w w' := by
  have C1 := Lib.hid (fun W => sum_of ⟨[97, 98, 99].toArray⟩ _ _ sha_abc rfl (by decide) W)
  have C2 := Lib.hid (fun W => hex_of _ _ hex_abc (by decide) W)
  have C3 := Lib.hid (fun W => sum_of ⟨[].toArray⟩ _ _ sha_nil rfl (by decide) W)
  have C4 := Lib.hid (fun W => hex_of _ _ hex_nil (by decide) W)
  have C5 := Lib.hid (fun W => mac_of _ _ _ mac_jefe (by decide) (by decide) W)
  have C6 := Lib.hid (fun W => hex_of _ _ hex_jefe (by decide) W)
  go_enter Try.func9, Try.ntmps9
  go_wp2_with fail
  refine (C1.out _).mono ?_
  rintro e w1 ⟨rfl, hb⟩
  have HB := hb
  clear hb
  go_wp2_with fail
  refine (C2.out _).mono ?_
  rintro e w2 ⟨rfl, hb⟩
  replace HB := HB.trans (hb.mono HB.size)
  clear hb
  go_wp2_with fail
  refine (C3.out _).mono ?_
  rintro e w3 ⟨rfl, hb⟩
  replace HB := HB.trans (hb.mono HB.size)
  clear hb
  go_wp2_with fail
  refine (C4.out _).mono ?_
  rintro e w4 ⟨rfl, hb⟩
  replace HB := HB.trans (hb.mono HB.size)
  clear hb
  go_wp2_with fail
  refine (C5.out _).mono ?_
  rintro e w5 ⟨rfl, hb⟩
  replace HB := HB.trans (hb.mono HB.size)
  clear hb
  go_wp2_with fail
  refine (C6.out _).mono ?_
  rintro e w6 ⟨rfl, hb⟩
  replace HB := HB.trans (hb.mono HB.size)
  clear hb
  go_wp2
  go_ret
  exact ⟨rfl, HB⟩
end Go.Proofs.Ytgchfponmaangaa
