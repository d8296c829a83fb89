/-
  The contracts of Text of integer and of the reference; dominolaw02.IntegerTexts returns true: the walk.
-/
import Derived.Test.YtehpdpcpdfgnlaaIntT
namespace Go.Proofs.Ytehpdpcpdfgnlaa
open Go.RowKit Num

/-- The text of an integer. -/
def itext (z : Int) : ByteArray := if zneg z then (⟨#[45]⟩ : ByteArray) ++ textOf (zabs z) else textOf (zabs z)
theorem textOf_small {n : Nat} (h : n < Top) : (textOf n).size ≤ 309 := by
  by_cases h0 : n = 0
  · subst h0; unfold textOf; rw [dtext_zero]; decide
  · rw [textOf_size h0]
    have := dn_le (Nat.lt_trans h top_dec)
    unfold E309 at this
    omega
theorem ntext {n : Nat} (h : n < Top) (W : World) : Calls Try.prog 16 #[.string (bs n)] W (Made W (.tuple #[.string (textOf n), .int .i64 0])) := by
  by_cases h0 : n = 0
  · subst h0; exact (text_zero W).mono (fun _ _ h => same_made h)
  · exact text_pos h h0 W
theorem rntext {n : Nat} (h : n < Top) (W : World) : Calls Try.prog 17 #[.string (bs n)] W (Made W (.tuple #[.string (textOf n), .int .i64 0])) := by
  by_cases h0 : n = 0
  · subst h0; exact (rtext_zero W).mono (fun _ _ h => same_made h)
  · exact rtext_pos h h0 W
theorem minus_text (n : Nat) : minus (textOf n) = false := by
  obtain ⟨h0, _, hd⟩ := ok_textOf n
  rcases hm : minus (textOf n) with _ | _
  · rfl
  · obtain ⟨h1, h2⟩ := minus_pos hm
    have := hd 0 h1
    omega
theorem minus_neg (t : ByteArray) : minus ((⟨#[45]⟩ : ByteArray) ++ t) = true ∧ behind ((⟨#[45]⟩ : ByteArray) ++ t) = t := by
  have h : minus ((⟨#[45]⟩ : ByteArray) ++ t) = true := by unfold minus; simp
  refine ⟨h, ?_⟩
  unfold behind
  rw [if_pos h]
  apply ByteArray.ext
  simp
  right
  show t.size ≤ 1 + t.size - 1
  omega
theorem iparse_text {z : Int} (hz : zabs z < Top) (W : World) : Calls Try.prog 50 #[.string (itext z)] W (Made W (.tuple #[(.agg #[.bool (zneg z), .string (bs (zabs z))]), .int .i64 0])) := by
  have hs := textOf_small hz
  unfold itext
  rcases hn : zneg z with _ | _
  · rw [if_neg (by decide)]
    have := iparse_pos (textOf (zabs z)) (n := zabs z) (minus_text _) W (by omega) (fun W => by
      unfold behind
      rw [if_neg (by rw [minus_text]; decide)]
      exact parse_text hz W)
    rw [← hn] at this
    rw [← hn]
    rwa [show sg (zneg z) * ((zabs z : Nat) : Int) = z from sg_of z] at this
  · rw [if_pos rfl]
    obtain ⟨h1, h2⟩ := minus_neg (textOf (zabs z))
    have h0 : zabs z ≠ 0 := fun e => by rw [zneg_zero e] at hn; cases hn
    have hz1 : ((⟨#[45]⟩ : ByteArray) ++ textOf (zabs z)).size ≤ 310 := by rw [ByteArray.size_append]; show 1 + _ ≤ 310; omega
    have := iparse_neg ((⟨#[45]⟩ : ByteArray) ++ textOf (zabs z)) (n := zabs z) h1 h0 W (by omega) (fun W => by
      rw [h2]
      exact parse_text hz W)
    rw [← hn] at this
    rw [← hn]
    rwa [show sg (zneg z) * ((zabs z : Nat) : Int) = z from sg_of z] at this

set_option maxHeartbeats 400000 in
set_option maxRecDepth 100000 in
theorem itext_yes {z : Int} (hz : zabs z < Top) (w : World) : Calls Try.prog 48 #[(.agg #[.bool (zneg z), .string (bs (zabs z))])] w (Made w (.tuple #[.string (itext z), .int .i64 0])) := by
  have V1 := Lib.hid (fun W => ivalid_yes hz W)
  have HT := Lib.hid (fun W => ntext hz W)
  have hsz := textOf_small hz
  unfold itext
  clear hz
  rcases hn : zneg z with _ | _
  all_goals
    rw [hn] at V1
    clear hn
    simp only [Bool.false_eq_true, if_false, if_true]
    go_enter Try.func48, Try.ntmps48
    go_wp2_with fail
    refine (V1.out _).mono ?_
    rintro e w1 ⟨rfl, hb⟩
    have HB := hb
    clear hb
    obtain ⟨hc, hf⟩ := bcell HB
    go_wp2_with fail
    refine (HT.out _).mono ?_
    rintro e w2 ⟨rfl, hb⟩
    replace HB := HB.trans (hb.mono HB.size)
    clear hb hc hf
    obtain ⟨hc, hf⟩ := bcell HB
    have hB := ((Below.refl w.heap.size w).alloc (Nat.le_refl _) _).trans (HB.mono (by simp))
    go_wp2
    go_ret2
    exact ⟨rfl, hB⟩

set_option maxHeartbeats 400000 in
set_option maxRecDepth 100000 in
theorem itext_no {p : Bool} {s : ByteArray} (h : vI p s = false) (hs : s.size ≤ 9223372036854775807) (w : World) : Calls Try.prog 48 #[.agg #[.bool p, .string s]] w (Made w (.tuple #[.string ⟨#[]⟩, .int .i64 3])) := by
  have V1 := Lib.hid (fun W => ivalid_no h W hs)
  clear h
  go_enter Try.func48, Try.ntmps48
  go_wp2_with fail
  refine (V1.out _).mono ?_
  rintro e w1 ⟨rfl, hb⟩
  have HB := hb
  clear hb
  obtain ⟨hc, hf⟩ := bcell HB
  have hB := ((Below.refl w.heap.size w).alloc (Nat.le_refl _) _).trans (HB.mono (by simp))
  go_wp2
  go_ret2
  exact ⟨rfl, hB⟩

set_option maxHeartbeats 400000 in
set_option maxRecDepth 100000 in
theorem ritext_yes {z : Int} (hz : zabs z < Top) (w : World) : Calls Try.prog 49 #[(.agg #[.bool (zneg z), .string (bs (zabs z))])] w (Made w (.tuple #[.string (itext z), .int .i64 0])) := by
  have V1 := Lib.hid (fun W => rivalid_yes hz W)
  have HT := Lib.hid (fun W => rntext hz W)
  have hsz := textOf_small hz
  unfold itext
  clear hz
  rcases hn : zneg z with _ | _
  all_goals
    rw [hn] at V1
    clear hn
    simp only [Bool.false_eq_true, if_false, if_true]
    go_enter Try.func49, Try.ntmps49
    go_wp2_with fail
    refine (V1.out _).mono ?_
    rintro e w1 ⟨rfl, hb⟩
    have HB := hb
    clear hb
    obtain ⟨hc, hf⟩ := bcell HB
    go_wp2_with fail
    refine (HT.out _).mono ?_
    rintro e w2 ⟨rfl, hb⟩
    replace HB := HB.trans (hb.mono HB.size)
    clear hb hc hf
    obtain ⟨hc, hf⟩ := bcell HB
    have hB := ((Below.refl w.heap.size w).alloc (Nat.le_refl _) _).trans (HB.mono (by simp))
    go_wp2
    go_ret2
    exact ⟨rfl, hB⟩

set_option maxHeartbeats 400000 in
set_option maxRecDepth 100000 in
theorem ritext_no {p : Bool} {s : ByteArray} (h : vI p s = false) (hs : s.size ≤ 9223372036854775807) (w : World) : Calls Try.prog 49 #[.agg #[.bool p, .string s]] w (Made w (.tuple #[.string ⟨#[]⟩, .int .i64 3])) := by
  have V1 := Lib.hid (fun W => rivalid_no h W hs)
  clear h
  go_enter Try.func49, Try.ntmps49
  go_wp2_with fail
  refine (V1.out _).mono ?_
  rintro e w1 ⟨rfl, hb⟩
  have HB := hb
  clear hb
  obtain ⟨hc, hf⟩ := bcell HB
  have hB := ((Below.refl w.heap.size w).alloc (Nat.le_refl _) _).trans (HB.mono (by simp))
  go_wp2
  go_ret2
  exact ⟨rfl, hB⟩

set_option maxHeartbeats 1000000 in
set_option maxRecDepth 100000 in
theorem itexts_yes (p : Bool) (s t : ByteArray) (w : World) (hs : s.size ≤ 140)
    (C0 : ∀ W, Calls Try.prog 48 #[.agg #[.bool p, .string s]] W (Made W (.tuple #[.string t, .int .i64 0])))
    (C1 : ∀ W, Calls Try.prog 49 #[.agg #[.bool p, .string s]] W (Made W (.tuple #[.string t, .int .i64 0])))
    (C2 : ∀ W, Calls Try.prog 50 #[.string t] W (Made W (.tuple #[.agg #[.bool p, .string s], .int .i64 0]))) :
    Calls Try.prog 9 #[.agg #[.bool p, .string s]] w (Made w (.bool true)) := by
  have H0 := Lib.hid C0
  have H1 := Lib.hid C1
  have H2 := Lib.hid C2
  clear C0 C1 C2
  have K0 := (Bk.new w #[.bool p, .string s] 37).alloc (.cells #[.bool p, .string s] 37)
  have KS := Bk.new1 w (.cells #[.bool p, .string s] 37) #[.bool p, .string s] 37
  have HV : Below w.heap.size w ((w.alloc (.cells #[.bool p, .string s] 37)).alloc (.cells #[.bool p, .string s] 37)) := ((Below.refl w.heap.size w).alloc (Nat.le_refl _) (.cells #[.bool p, .string s] 37)).alloc (by simp) (.cells #[.bool p, .string s] 37)
  have HF := Lib.hid (long_no (w.heap.size + 1) 1 1 (fun _ => s) ((w.alloc (.cells #[.bool p, .string s] 37)).alloc (.cells #[.bool p, .string s] 37)) (fun k hk => by
    obtain rfl : k = 0 := by omega
    exact KS.cell 1) (by decide) (fun _ _ => hs))
  clear KS
  go_enter Try.func9, Try.ntmps9
  go_wp2_with fail
  refine HF.out.mono ?_
  rintro e w' ⟨rfl, rfl⟩
  go_wp2_with fail
  refine (H0.out _).mono ?_
  rintro e u1 ⟨rfl, hb⟩
  replace K0 := K0.below hb
  replace HV := HV.trans (hb.mono HV.size)
  clear hb
  have a0 : u1.cell? ⟨w.heap.size, 0, none⟩ = some (.bool p) := K0.cell 0
  have a1 : u1.cell? ⟨w.heap.size, 1, none⟩ = some (.string s) := K0.cell 1
  have l0 : w.heap.size < u1.heap.size := K0.lt
  go_wp2_with fail
  refine (H1.out _).mono ?_
  rintro e u2 ⟨rfl, hb⟩
  replace K0 := K0.below hb
  replace HV := HV.trans (hb.mono HV.size)
  clear hb
  clear a0 a1 l0
  have a0 : u2.cell? ⟨w.heap.size, 0, none⟩ = some (.bool p) := K0.cell 0
  have a1 : u2.cell? ⟨w.heap.size, 1, none⟩ = some (.string s) := K0.cell 1
  have l0 : w.heap.size < u2.heap.size := K0.lt
  go_wp2_with fail
  refine (H2.out _).mono ?_
  rintro e u3 ⟨rfl, hb⟩
  replace K0 := K0.below hb
  replace HV := HV.trans (hb.mono HV.size)
  clear hb
  replace K0 := K0.alloc (.cells #[.bool p, .string s] 37)
  have K7 := Bk.new u3 #[.bool p, .string s] 37
  replace HV := HV.alloc HV.size (.cells #[.bool p, .string s] 37)
  clear a0 a1 l0
  go_wp2_with fail
  refine (iawake_any _).mono ?_
  rintro e ua ⟨rfl, hb⟩
  replace K0 := K0.below hb
  replace K7 := K7.below hb
  replace HV := HV.trans (hb.mono HV.size)
  clear hb
  have a0 : ua.cell? ⟨w.heap.size, 0, none⟩ = some (.bool p) := K0.cell 0
  have a1 : ua.cell? ⟨w.heap.size, 1, none⟩ = some (.string s) := K0.cell 1
  have x0 : ua.cell? ⟨u3.heap.size, 0, none⟩ = some (.bool p) := K7.cell 0
  have x1 : ua.cell? ⟨u3.heap.size, 1, none⟩ = some (.string s) := K7.cell 1
  go_wp2
  go_ret
  exact ⟨rfl, HV⟩

set_option maxHeartbeats 1000000 in
set_option maxRecDepth 100000 in
theorem itexts_no (p : Bool) (s : ByteArray) (w : World) (hs : s.size ≤ 140) (h : vI p s = false) :
    Calls Try.prog 9 #[.agg #[.bool p, .string s]] w (Made w (.bool true)) := by
  have H0 := Lib.hid (fun W => itext_no h (by omega) W)
  have H1 := Lib.hid (fun W => ritext_no h (by omega) W)
  clear h
  have K0 := (Bk.new w #[.bool p, .string s] 37).alloc (.cells #[.bool p, .string s] 37)
  have KS := Bk.new1 w (.cells #[.bool p, .string s] 37) #[.bool p, .string s] 37
  have HV : Below w.heap.size w ((w.alloc (.cells #[.bool p, .string s] 37)).alloc (.cells #[.bool p, .string s] 37)) := ((Below.refl w.heap.size w).alloc (Nat.le_refl _) (.cells #[.bool p, .string s] 37)).alloc (by simp) (.cells #[.bool p, .string s] 37)
  have HF := Lib.hid (long_no (w.heap.size + 1) 1 1 (fun _ => s) ((w.alloc (.cells #[.bool p, .string s] 37)).alloc (.cells #[.bool p, .string s] 37)) (fun k hk => by
    obtain rfl : k = 0 := by omega
    exact KS.cell 1) (by decide) (fun _ _ => hs))
  clear KS
  go_enter Try.func9, Try.ntmps9
  go_wp2_with fail
  refine HF.out.mono ?_
  rintro e w' ⟨rfl, rfl⟩
  go_wp2_with fail
  refine (H0.out _).mono ?_
  rintro e u1 ⟨rfl, hb⟩
  replace K0 := K0.below hb
  replace HV := HV.trans (hb.mono HV.size)
  clear hb
  have a0 : u1.cell? ⟨w.heap.size, 0, none⟩ = some (.bool p) := K0.cell 0
  have a1 : u1.cell? ⟨w.heap.size, 1, none⟩ = some (.string s) := K0.cell 1
  have l0 : w.heap.size < u1.heap.size := K0.lt
  go_wp2_with fail
  refine (H1.out _).mono ?_
  rintro e u2 ⟨rfl, hb⟩
  replace K0 := K0.below hb
  replace HV := HV.trans (hb.mono HV.size)
  clear hb
  clear a0 a1 l0
  have a0 : u2.cell? ⟨w.heap.size, 0, none⟩ = some (.bool p) := K0.cell 0
  have a1 : u2.cell? ⟨w.heap.size, 1, none⟩ = some (.string s) := K0.cell 1
  have l0 : w.heap.size < u2.heap.size := K0.lt
  go_wp2_with fail
  refine (iawake_any _).mono ?_
  rintro e ua ⟨rfl, hb⟩
  replace K0 := K0.below hb
  replace HV := HV.trans (hb.mono HV.size)
  clear hb
  go_wp2
  go_ret
  exact ⟨rfl, HV⟩

set_option maxHeartbeats 1000000 in
set_option maxRecDepth 100000 in
theorem law_itexts (p : Bool) (s : ByteArray) (w : World) (hs : s.size ≤ 9223372036854775807) :
    Calls Try.prog 9 #[.agg #[.bool p, .string s]] w (Made w (.bool true)) := by
  by_cases h : s.size ≤ 140
  · rcases hv : vI p s with _ | _
    · exact itexts_no p s w h hv
    · obtain ⟨z, hz, rfl, rfl⟩ := vI_of hv
      exact itexts_yes _ _ (itext z) w h (fun W => itext_yes hz W) (fun W => ritext_yes hz W) (fun W => iparse_text hz W)
  have h2 : 140 < s.size := by omega
  have K0 := (Bk.new w #[.bool p, .string s] 37).alloc (.cells #[.bool p, .string s] 37)
  have KS := Bk.new1 w (.cells #[.bool p, .string s] 37) #[.bool p, .string s] 37
  have HV : Below w.heap.size w ((w.alloc (.cells #[.bool p, .string s] 37)).alloc (.cells #[.bool p, .string s] 37)) := ((Below.refl w.heap.size w).alloc (Nat.le_refl _) (.cells #[.bool p, .string s] 37)).alloc (by simp) (.cells #[.bool p, .string s] 37)
  have HF := Lib.hid (long_yes (w.heap.size + 1) 1 1 (fun _ => s) ((w.alloc (.cells #[.bool p, .string s] 37)).alloc (.cells #[.bool p, .string s] 37)) (fun k hk => by
    obtain rfl : k = 0 := by omega
    exact KS.cell 1) (by decide) (fun _ _ => hs) ⟨0, by decide, h2⟩)
  clear KS K0
  go_enter Try.func9, Try.ntmps9
  go_wp2_with fail
  refine HF.out.mono ?_
  rintro e w' ⟨rfl, rfl⟩
  go_wp2_with fail
  refine (iawake_any _).mono ?_
  rintro e ua ⟨rfl, hb⟩
  replace HV := HV.trans (hb.mono HV.size)
  clear hb
  go_wp2
  go_ret
  exact ⟨rfl, HV⟩

end Go.Proofs.Ytehpdpcpdfgnlaa
