/-
  The contracts of Cmp and Small, of integer and of the reference.
-/
import Derived.Test.YtbkbjjdjgiapdaaIntR
namespace Go.Proofs.Ytbkbjjdjgiapdaa
open Go.RowKit Num

/-- The order of two integers. -/
def cmpZ (x y : Int) : Int := if x < y then -1 else if y < x then 1 else 0
theorem cmpZ_pp {x y : Int} (hx : zneg x = false) (hy : zneg y = false) : cmpN (zabs x) (zabs y) = cmpZ x y := by
  unfold zneg at hx hy
  unfold cmpN cmpZ zabs
  simp at hx hy
  by_cases h1 : x < y
  · rw [if_pos h1, if_pos (by omega)]
  · rw [if_neg h1, if_neg (by omega)]
    by_cases h2 : y < x
    · rw [if_pos h2, if_pos (by omega)]
    · rw [if_neg h2, if_neg (by omega)]
theorem cmpZ_nn {x y : Int} (hx : zneg x = true) (hy : zneg y = true) : cmpN (zabs y) (zabs x) = cmpZ x y := by
  unfold zneg at hx hy
  unfold cmpN cmpZ zabs
  simp at hx hy
  by_cases h1 : x < y
  · rw [if_pos h1, if_pos (by omega)]
  · rw [if_neg h1, if_neg (by omega)]
    by_cases h2 : y < x
    · rw [if_pos h2, if_pos (by omega)]
    · rw [if_neg h2, if_neg (by omega)]
theorem cmpZ_np {x y : Int} (hx : zneg x = true) (hy : zneg y = false) : cmpZ x y = -1 := by
  unfold zneg at hx hy
  simp at hx hy
  unfold cmpZ
  rw [if_pos (by omega)]
theorem cmpZ_pn {x y : Int} (hx : zneg x = false) (hy : zneg y = true) : cmpZ x y = 1 := by
  unfold zneg at hx hy
  simp at hx hy
  unfold cmpZ
  rw [if_neg (by omega), if_pos (by omega)]

set_option maxHeartbeats 400000 in
set_option maxRecDepth 100000 in
theorem icmp_ok {x y : Int} (hx : zabs x < Top) (hy : zabs y < Top) (w : World) : Calls Try.prog 32 #[(.agg #[.bool (zneg x), .string (bs (zabs x))]), (.agg #[.bool (zneg y), .string (bs (zabs y))])] w (Made w (.int .i64 (cmpZ x y))) := by
  have V1 := Lib.hid (fun W => ivalid_yes hx W)
  have V2 := Lib.hid (fun W => ivalid_yes hy W)
  have C1 := Lib.hid (fun W => cmp_yes hx hy W)
  have C2 := Lib.hid (fun W => cmp_yes hy hx W)
  clear hx hy
  rcases hp : zneg x with _ | _ <;> rcases hq : zneg y with _ | _
  · rw [hp] at V1
    rw [hq] at V2
    rw [cmpZ_pp hp hq] at C1
    clear hp hq
    go_enter Try.func32, Try.ntmps32
    go_wp2_with fail
    refine (V1.out _).mono ?_
    rintro e w1 ⟨rfl, hb⟩
    have HB := hb
    clear hb
    obtain ⟨hc, hf⟩ := bcell HB
    go_wp2_with fail
    refine (V2.out _).mono ?_
    rintro e w2 ⟨rfl, hb⟩
    replace HB := HB.trans (hb.mono HB.size)
    clear hb hc hf
    obtain ⟨hc, hf⟩ := bcell HB
    go_wp2_with fail
    refine (C1.out _).mono ?_
    rintro e w' ⟨rfl, rfl⟩
    have hB := (((Below.refl w.heap.size w).alloc (Nat.le_refl _) _).alloc (by simp) _).trans (HB.mono (by simp; omega))
    go_wp2
    go_ret
    exact ⟨rfl, hB⟩
  · rw [hp] at V1
    rw [hq] at V2
    rw [cmpZ_pn hp hq]
    clear hp hq
    go_enter Try.func32, Try.ntmps32
    go_wp2_with fail
    refine (V1.out _).mono ?_
    rintro e w1 ⟨rfl, hb⟩
    have HB := hb
    clear hb
    obtain ⟨hc, hf⟩ := bcell HB
    go_wp2_with fail
    refine (V2.out _).mono ?_
    rintro e w2 ⟨rfl, hb⟩
    replace HB := HB.trans (hb.mono HB.size)
    clear hb hc hf
    obtain ⟨hc, hf⟩ := bcell HB
    have hB := (((Below.refl w.heap.size w).alloc (Nat.le_refl _) _).alloc (by simp) _).trans (HB.mono (by simp; omega))
    go_wp2
    go_ret
    exact ⟨rfl, hB⟩
  · rw [hp] at V1
    rw [hq] at V2
    rw [cmpZ_np hp hq]
    clear hp hq
    go_enter Try.func32, Try.ntmps32
    go_wp2_with fail
    refine (V1.out _).mono ?_
    rintro e w1 ⟨rfl, hb⟩
    have HB := hb
    clear hb
    obtain ⟨hc, hf⟩ := bcell HB
    go_wp2_with fail
    refine (V2.out _).mono ?_
    rintro e w2 ⟨rfl, hb⟩
    replace HB := HB.trans (hb.mono HB.size)
    clear hb hc hf
    obtain ⟨hc, hf⟩ := bcell HB
    have hB := (((Below.refl w.heap.size w).alloc (Nat.le_refl _) _).alloc (by simp) _).trans (HB.mono (by simp; omega))
    go_wp2
    go_ret
    exact ⟨rfl, hB⟩
  · rw [hp] at V1
    rw [hq] at V2
    rw [cmpZ_nn hp hq] at C2
    clear hp hq
    go_enter Try.func32, Try.ntmps32
    go_wp2_with fail
    refine (V1.out _).mono ?_
    rintro e w1 ⟨rfl, hb⟩
    have HB := hb
    clear hb
    obtain ⟨hc, hf⟩ := bcell HB
    go_wp2_with fail
    refine (V2.out _).mono ?_
    rintro e w2 ⟨rfl, hb⟩
    replace HB := HB.trans (hb.mono HB.size)
    clear hb hc hf
    obtain ⟨hc, hf⟩ := bcell HB
    go_wp2_with fail
    refine (C2.out _).mono ?_
    rintro e w' ⟨rfl, rfl⟩
    have hB := (((Below.refl w.heap.size w).alloc (Nat.le_refl _) _).alloc (by simp) _).trans (HB.mono (by simp; omega))
    go_wp2
    go_ret
    exact ⟨rfl, hB⟩

set_option maxHeartbeats 400000 in
set_option maxRecDepth 100000 in
theorem icmp_no1 {p q : Bool} {s t : ByteArray} (h : vI p s = false) (hs : s.size ≤ 9223372036854775807) (w : World) : Calls Try.prog 32 #[.agg #[.bool p, .string s], .agg #[.bool q, .string t]] w (Made w (.int .i64 0)) := by
  have V1 := Lib.hid (fun W => ivalid_no h W hs)
  clear h
  go_enter Try.func32, Try.ntmps32
  go_wp2_with fail
  refine (V1.out _).mono ?_
  rintro e w1 ⟨rfl, hb⟩
  have HB := hb
  clear hb
  obtain ⟨hc, hf⟩ := bcell HB
  have hB := (((Below.refl w.heap.size w).alloc (Nat.le_refl _) _).alloc (by simp) _).trans (HB.mono (by simp; omega))
  go_wp2
  go_ret
  exact ⟨rfl, hB⟩

set_option maxHeartbeats 400000 in
set_option maxRecDepth 100000 in
theorem icmp_no2 {x : Int} {q : Bool} {t : ByteArray} (hx : zabs x < Top) (h : vI q t = false) (ht : t.size ≤ 9223372036854775807) (w : World) : Calls Try.prog 32 #[(.agg #[.bool (zneg x), .string (bs (zabs x))]), .agg #[.bool q, .string t]] w (Made w (.int .i64 0)) := by
  have V1 := Lib.hid (fun W => ivalid_yes hx W)
  have V2 := Lib.hid (fun W => ivalid_no h W ht)
  clear hx h
  go_enter Try.func32, Try.ntmps32
  go_wp2_with fail
  refine (V1.out _).mono ?_
  rintro e w1 ⟨rfl, hb⟩
  have HB := hb
  clear hb
  obtain ⟨hc, hf⟩ := bcell HB
  go_wp2_with fail
  refine (V2.out _).mono ?_
  rintro e w2 ⟨rfl, hb⟩
  replace HB := HB.trans (hb.mono HB.size)
  clear hb hc hf
  obtain ⟨hc, hf⟩ := bcell HB
  have hB := (((Below.refl w.heap.size w).alloc (Nat.le_refl _) _).alloc (by simp) _).trans (HB.mono (by simp; omega))
  go_wp2
  go_ret
  exact ⟨rfl, hB⟩

set_option maxHeartbeats 400000 in
set_option maxRecDepth 100000 in
theorem ricmp_ok {x y : Int} (hx : zabs x < Top) (hy : zabs y < Top) (w : World) : Calls Try.prog 33 #[(.agg #[.bool (zneg x), .string (bs (zabs x))]), (.agg #[.bool (zneg y), .string (bs (zabs y))])] w (Made w (.int .i64 (cmpZ x y))) := by
  have V1 := Lib.hid (fun W => rivalid_yes hx W)
  have V2 := Lib.hid (fun W => rivalid_yes hy W)
  have C1 := Lib.hid (fun W => rcmp_yes hx hy W)
  have C2 := Lib.hid (fun W => rcmp_yes hy hx W)
  clear hx hy
  rcases hp : zneg x with _ | _ <;> rcases hq : zneg y with _ | _
  · rw [hp] at V1
    rw [hq] at V2
    rw [cmpZ_pp hp hq] at C1
    clear hp hq
    go_enter Try.func33, Try.ntmps33
    go_wp2_with fail
    refine (V1.out _).mono ?_
    rintro e w1 ⟨rfl, hb⟩
    have HB := hb
    clear hb
    obtain ⟨hc, hf⟩ := bcell HB
    go_wp2_with fail
    refine (V2.out _).mono ?_
    rintro e w2 ⟨rfl, hb⟩
    replace HB := HB.trans (hb.mono HB.size)
    clear hb hc hf
    obtain ⟨hc, hf⟩ := bcell HB
    go_wp2_with fail
    refine (C1.out _).mono ?_
    rintro e w3 ⟨rfl, hb⟩
    replace HB := HB.trans (hb.mono HB.size)
    clear hb hc hf
    obtain ⟨hc, hf⟩ := bcell HB
    have hB := (((Below.refl w.heap.size w).alloc (Nat.le_refl _) _).alloc (by simp) _).trans (HB.mono (by simp; omega))
    go_wp2
    go_ret
    exact ⟨rfl, hB⟩
  · rw [hp] at V1
    rw [hq] at V2
    rw [cmpZ_pn hp hq]
    clear hp hq
    go_enter Try.func33, Try.ntmps33
    go_wp2_with fail
    refine (V1.out _).mono ?_
    rintro e w1 ⟨rfl, hb⟩
    have HB := hb
    clear hb
    obtain ⟨hc, hf⟩ := bcell HB
    go_wp2_with fail
    refine (V2.out _).mono ?_
    rintro e w2 ⟨rfl, hb⟩
    replace HB := HB.trans (hb.mono HB.size)
    clear hb hc hf
    obtain ⟨hc, hf⟩ := bcell HB
    have hB := (((Below.refl w.heap.size w).alloc (Nat.le_refl _) _).alloc (by simp) _).trans (HB.mono (by simp; omega))
    go_wp2
    go_ret
    exact ⟨rfl, hB⟩
  · rw [hp] at V1
    rw [hq] at V2
    rw [cmpZ_np hp hq]
    clear hp hq
    go_enter Try.func33, Try.ntmps33
    go_wp2_with fail
    refine (V1.out _).mono ?_
    rintro e w1 ⟨rfl, hb⟩
    have HB := hb
    clear hb
    obtain ⟨hc, hf⟩ := bcell HB
    go_wp2_with fail
    refine (V2.out _).mono ?_
    rintro e w2 ⟨rfl, hb⟩
    replace HB := HB.trans (hb.mono HB.size)
    clear hb hc hf
    obtain ⟨hc, hf⟩ := bcell HB
    have hB := (((Below.refl w.heap.size w).alloc (Nat.le_refl _) _).alloc (by simp) _).trans (HB.mono (by simp; omega))
    go_wp2
    go_ret
    exact ⟨rfl, hB⟩
  · rw [hp] at V1
    rw [hq] at V2
    rw [cmpZ_nn hp hq] at C2
    clear hp hq
    go_enter Try.func33, Try.ntmps33
    go_wp2_with fail
    refine (V1.out _).mono ?_
    rintro e w1 ⟨rfl, hb⟩
    have HB := hb
    clear hb
    obtain ⟨hc, hf⟩ := bcell HB
    go_wp2_with fail
    refine (V2.out _).mono ?_
    rintro e w2 ⟨rfl, hb⟩
    replace HB := HB.trans (hb.mono HB.size)
    clear hb hc hf
    obtain ⟨hc, hf⟩ := bcell HB
    go_wp2_with fail
    refine (C2.out _).mono ?_
    rintro e w3 ⟨rfl, hb⟩
    replace HB := HB.trans (hb.mono HB.size)
    clear hb hc hf
    obtain ⟨hc, hf⟩ := bcell HB
    have hB := (((Below.refl w.heap.size w).alloc (Nat.le_refl _) _).alloc (by simp) _).trans (HB.mono (by simp; omega))
    go_wp2
    go_ret
    exact ⟨rfl, hB⟩

set_option maxHeartbeats 400000 in
set_option maxRecDepth 100000 in
theorem ricmp_no1 {p q : Bool} {s t : ByteArray} (h : vI p s = false) (hs : s.size ≤ 9223372036854775807) (w : World) : Calls Try.prog 33 #[.agg #[.bool p, .string s], .agg #[.bool q, .string t]] w (Made w (.int .i64 0)) := by
  have V1 := Lib.hid (fun W => rivalid_no h W hs)
  clear h
  go_enter Try.func33, Try.ntmps33
  go_wp2_with fail
  refine (V1.out _).mono ?_
  rintro e w1 ⟨rfl, hb⟩
  have HB := hb
  clear hb
  obtain ⟨hc, hf⟩ := bcell HB
  have hB := (((Below.refl w.heap.size w).alloc (Nat.le_refl _) _).alloc (by simp) _).trans (HB.mono (by simp; omega))
  go_wp2
  go_ret
  exact ⟨rfl, hB⟩

set_option maxHeartbeats 400000 in
set_option maxRecDepth 100000 in
theorem ricmp_no2 {x : Int} {q : Bool} {t : ByteArray} (hx : zabs x < Top) (h : vI q t = false) (ht : t.size ≤ 9223372036854775807) (w : World) : Calls Try.prog 33 #[(.agg #[.bool (zneg x), .string (bs (zabs x))]), .agg #[.bool q, .string t]] w (Made w (.int .i64 0)) := by
  have V1 := Lib.hid (fun W => rivalid_yes hx W)
  have V2 := Lib.hid (fun W => rivalid_no h W ht)
  clear hx h
  go_enter Try.func33, Try.ntmps33
  go_wp2_with fail
  refine (V1.out _).mono ?_
  rintro e w1 ⟨rfl, hb⟩
  have HB := hb
  clear hb
  obtain ⟨hc, hf⟩ := bcell HB
  go_wp2_with fail
  refine (V2.out _).mono ?_
  rintro e w2 ⟨rfl, hb⟩
  replace HB := HB.trans (hb.mono HB.size)
  clear hb hc hf
  obtain ⟨hc, hf⟩ := bcell HB
  have hB := (((Below.refl w.heap.size w).alloc (Nat.le_refl _) _).alloc (by simp) _).trans (HB.mono (by simp; omega))
  go_wp2
  go_ret
  exact ⟨rfl, hB⟩

end Go.Proofs.Ytbkbjjdjgiapdaa
