/-
  The contracts of Mod and Divide, of integer and of the reference.
-/
import Derived.Test.YtmiafkbjmkaebaaGreatIntI
namespace Go.Proofs.YtmiafkbjmkaebaaGreat
open Go.RowKit Num

set_option maxHeartbeats 4000000 in
set_option maxRecDepth 100000 in
theorem rimod_core {x : Int} {m R : Nat} {z e : Int} (hx : zabs x < Top) (hm : m < Top) (w : World)
    (C : ∀ W, Calls Tryz.prog 66 #[(.agg #[.bool (zneg x), .string (bs (zabs x))]), (.agg #[.bool (zneg ((m : Int))), .string (bs (zabs ((m : Int))))])] W (Made W (.tuple #[(.agg #[.bool (zneg z), .string (bs (zabs z))]), .string (bs R), .int .i64 e]))) :
    Calls Tryz.prog 44 #[(.agg #[.bool (zneg x), .string (bs (zabs x))]), .string (bs m)] w (Made w (.tuple #[.string (bs R), .int .i64 e])) := by
  have V1 := Lib.hid (fun W => rivalid_yes hx W)
  have V2 := Lib.hid (fun W => rvalid_yes hm W)
  have HF := Lib.hid (fun W => rfrom_yes hm W)
  have HM := Lib.hid C
  clear C hx hm
  go_enter Tryz.func44, Tryz.ntmps44
  go_wp2_with fail
  refine (V1.out _).mono ?_
  rintro e w1 ⟨rfl, hb⟩
  have HB := hb
  clear hb
  obtain ⟨hc, hf⟩ := bcell HB
  go_wp2_with fail
  refine (V2.out _).mono ?_
  rintro e w' ⟨rfl, rfl⟩
  have hz0 : w.heap.size < w1.heap.size := by have := HB.size; simp at this; omega
  have hz0d : w.heap.size < w1.drew.heap.size := hz0
  go_wp2_with fail
  replace HB := HB.drew
  go_region_with (first | (go_at_call 67; (refine (HF.out _).mono ?_); rintro e w3 ⟨rfl, hb⟩; obtain ⟨hc3, hf3⟩ := bcell hb; have hz3 := hb.size; (try simp at hz3); (try have hz3b := Nat.lt_of_succ_le hz3); (first | replace HB := HB.trans (hb.mono HB.size) | replace HB := (HB.alloc HB.size _).trans (hb.mono (HB.alloc HB.size _).size)); have hz03 := HB.size; simp at hz03; replace hz03 := Nat.lt_of_succ_le hz03; obtain ⟨hc3', hf3'⟩ := bcell HB; clear hb) | (go_at_call 66; (refine (HM.out _).mono ?_); rintro e w4 ⟨rfl, hb⟩; obtain ⟨hc4, hf4⟩ := bcell hb; have hz4 := hb.size; (try simp at hz4); (try have hz4b := Nat.lt_of_succ_le hz4); (try have hz4c := Nat.lt_of_lt_of_le hz3b hz4); (first | replace HB := HB.trans (hb.mono HB.size) | replace HB := (HB.alloc HB.size _).trans (hb.mono (HB.alloc HB.size _).size)); clear hb))
  all_goals
    have hB := ((Below.refl w.heap.size w).alloc (Nat.le_refl _) _).trans (HB.mono (by simp))
    go_wp2
    go_ret2
    first
      | exact ⟨rfl, hB.alloc hB.size _⟩
      | exact ⟨rfl, (hB.setCell (Nat.le_of_lt hz03) _).setCell (Nat.le_of_lt hz03) _⟩
      | exact ⟨rfl, (hB.setCell (Nat.le_of_lt hz0) _).setCell (Nat.le_of_lt hz0) _⟩

set_option maxHeartbeats 400000 in
set_option maxRecDepth 100000 in
theorem rimod_no1 {p : Bool} {s t : ByteArray} (h : vI p s = false) (hs : s.size ≤ 9223372036854775807) (w : World) : Calls Tryz.prog 44 #[.agg #[.bool p, .string s], .string t] w (Made w (.tuple #[.string (bs 0), .int .i64 3])) := by
  have V1 := Lib.hid (fun W => rivalid_no h W hs)
  rw [bs_zero]
  clear h
  go_enter Tryz.func44, Tryz.ntmps44
  go_wp2_with fail
  refine (V1.out _).mono ?_
  rintro e w1 ⟨rfl, hb⟩
  have HB := hb
  clear hb
  obtain ⟨hc, hf⟩ := bcell HB
  have hB := ((Below.refl w.heap.size w).alloc (Nat.le_refl _) _).trans (HB.mono (by simp))
  go_wp2
  go_ret2
  exact ⟨rfl, hB⟩

set_option maxHeartbeats 400000 in
set_option maxRecDepth 100000 in
theorem rimod_no2 {x : Int} {t : ByteArray} (hx : zabs x < Top) (h : validB t = false) (ht : t.size ≤ 9223372036854775807) (w : World) : Calls Tryz.prog 44 #[(.agg #[.bool (zneg x), .string (bs (zabs x))]), .string t] w (Made w (.tuple #[.string (bs 0), .int .i64 3])) := by
  have V1 := Lib.hid (fun W => rivalid_yes hx W)
  have V2 := Lib.hid (fun W => rvalid_no h W ht)
  rw [bs_zero]
  clear h hx
  go_enter Tryz.func44, Tryz.ntmps44
  go_wp2_with fail
  refine (V1.out _).mono ?_
  rintro e w1 ⟨rfl, hb⟩
  have HB := hb
  clear hb
  obtain ⟨hc, hf⟩ := bcell HB
  go_wp2_with fail
  refine (V2.out _).mono ?_
  rintro e w' ⟨rfl, rfl⟩
  have hB := ((Below.refl w.heap.size w).alloc (Nat.le_refl _) _).trans (HB.mono (by simp))
  go_wp2
  go_ret2
  exact ⟨rfl, hB⟩
theorem rimod_ok {x : Int} {m : Nat} (hx : zabs x < Top) (hm : m < Top) (h0 : m ≠ 0) (w : World) : Calls Tryz.prog 44 #[(.agg #[.bool (zneg x), .string (bs (zabs x))]), .string (bs m)] w (Made w (.tuple #[.string (bs (zabs (x % (m : Int)))), .int .i64 0])) :=
  rimod_core hx hm w (fun W => ridivmod_ok hx (by rw [zabs_nat]; exact hm) (by rw [zabs_nat]; exact h0) W)
theorem rimod_by0 {x : Int} (hx : zabs x < Top) (w : World) : Calls Tryz.prog 44 #[(.agg #[.bool (zneg x), .string (bs (zabs x))]), .string (bs 0)] w (Made w (.tuple #[.string (bs 0), .int .i64 11])) :=
  rimod_core hx (by unfold Top; decide) w (fun W => ridivmod_by0 hx W)

end Go.Proofs.YtmiafkbjmkaebaaGreat
