/-
  The contracts of Extended, of integer and of the reference, at all arguments; dominolaw02.IntegerExtends returns true: the walk.
-/
import Derived.Test.YtejadipdpohkoaaIntT
import Derived.Test.YtejadipdpohkoaaIntW
import Derived.Test.YtejadipdpohkoaaIntY
namespace Go.Proofs.Ytejadipdpohkoaa
open Go.RowKit Num
set_option maxHeartbeats 3200000 in
set_option maxRecDepth 100000 in
theorem iext_core (s t G T1 T2 : ByteArray) (b1 b2 : Bool) (e : Int) (hs : s.size ≤ 60) (ht : t.size ≤ 60)
    (C1 : ∀ W, Calls Try.prog 46 #[.string s, .string t] W (Made W (.tuple #[.string G, .agg #[.bool b1, .string T1], .agg #[.bool b2, .string T2], .int .i64 e])))
    (C2 : ∀ W, Calls Try.prog 47 #[.string s, .string t] W (Made W (.tuple #[.string G, .agg #[.bool b1, .string T1], .agg #[.bool b2, .string T2], .int .i64 e]))) (w : World) :
    Calls Try.prog 8 #[.string s, .string t] w (Made w (.bool true)) := by
  have H1 := Lib.hid C1
  have H2 := Lib.hid C2
  clear C1 C2
  go_enter Try.func8, Try.ntmps8
  go_wp2_with fail
  refine (H1.out _).mono ?_
  rintro e w1 ⟨rfl, hb⟩
  have HV := hb
  clear hb
  have KA := (Bk.new w1 #[.bool b1, .string T1] 37).alloc (.cells #[.bool b2, .string T2] 37)
  have KB := Bk.new1 w1 (.cells #[.bool b1, .string T1] 37) #[.bool b2, .string T2] 37
  replace HV := (HV.alloc HV.size (.cells #[.bool b1, .string T1] 37)).alloc (by have := HV.size; simp; omega) (.cells #[.bool b2, .string T2] 37)
  go_wp2_with fail
  refine (H2.out _).mono ?_
  rintro e w2 ⟨rfl, hb⟩
  replace KA := KA.below hb
  replace KB := KB.below hb
  replace HV := HV.trans (hb.mono HV.size)
  clear hb
  replace KA := (KA.alloc (.cells #[.bool b1, .string T1] 37)).alloc (.cells #[.bool b2, .string T2] 37)
  replace KB := (KB.alloc (.cells #[.bool b1, .string T1] 37)).alloc (.cells #[.bool b2, .string T2] 37)
  have KC := (Bk.new w2 #[.bool b1, .string T1] 37).alloc (.cells #[.bool b2, .string T2] 37)
  have KD := Bk.new1 w2 (.cells #[.bool b1, .string T1] 37) #[.bool b2, .string T2] 37
  replace HV := (HV.alloc HV.size (.cells #[.bool b1, .string T1] 37)).alloc (by have := HV.size; simp; omega) (.cells #[.bool b2, .string T2] 37)
  go_wp2_with fail
  refine (iawake_any _).mono ?_
  rintro e w3 ⟨rfl, hb⟩
  replace KA := KA.below hb
  replace KB := KB.below hb
  replace KC := KC.below hb
  replace KD := KD.below hb
  replace HV := HV.trans (hb.mono HV.size)
  clear hb
  have a0 := KA.cell 0
  have a1 := KA.cell 1
  have b0 := KB.cell 0
  have b1' := KB.cell 1
  have c0 := KC.cell 0
  have c1 := KC.cell 1
  have d0 := KD.cell 0
  have d1 := KD.cell 1
  go_wp2
  go_ret
  exact ⟨rfl, HV⟩
set_option maxHeartbeats 3200000 in
set_option maxRecDepth 100000 in
theorem iext_big (s t : ByteArray) (hs : s.size ≤ 9223372036854775807) (ht : t.size ≤ 9223372036854775807) (h : 60 < s.size ∨ (s.size ≤ 60 ∧ 60 < t.size)) (w : World) :
    Calls Try.prog 8 #[.string s, .string t] w (Made w (.bool true)) := by
  rcases h with h | ⟨h0, h⟩
  all_goals
    go_enter Try.func8, Try.ntmps8
    go_wp2_with fail
    refine (iawake_any _).mono ?_
    rintro e w1 ⟨rfl, hb⟩
    go_wp2
    go_ret
    exact ⟨rfl, hb⟩
theorem rextended_pos {a b : Nat} (ha : a < 256 ^ 60) (hb : b < 256 ^ 60) (h0 : b ≠ 0) {X Y : Int} (hE : IsExt a b X Y) (w : World) :
    Calls Try.prog 47 #[.string (bs a), .string (bs b)] w (Made w (.tuple #[.string (bs (Nat.gcd a b)), (.agg #[.bool (zneg X), .string (bs (zabs X))]), (.agg #[.bool (zneg Y), .string (bs (zabs Y))]), .int .i64 0])) := by
  obtain ⟨hg, ga, gb, hm⟩ := gcd_parts (a := a) h0
  obtain ⟨hs1, hs2⟩ := bez_spec b a
  obtain ⟨bx, by', _⟩ := hs2 h0
  have hx := ext_of h0 hs1
  obtain ⟨e1, e2⟩ := ext_unique h0 hx hE
  have hZ := fun W => bezout_ok b b a (Nat.le_refl _) ha hb W
  generalize (bez a b).1 = x at *
  generalize (bez a b).2 = y at *
  have hk : (x / ((b / Nat.gcd a b : Nat) : Int)).natAbs ≤ x.natAbs := Int.natAbs_ediv_le_natAbs _ _
  have hf : a / Nat.gcd a b ≤ a := Nat.div_le_self _ _
  have hgb : Nat.gcd a b ≤ b := Nat.gcd_le_right _ (Nat.pos_of_ne_zero h0)
  have hp : (b + 1) * a ≤ 256 ^ 60 * 256 ^ 60 := Nat.mul_le_mul (by omega) (Nat.le_of_lt ha)
  have hT : 256 ^ 60 * 256 ^ 60 + 256 ^ 60 + 256 ^ 60 < Top := by unfold Top; decide
  have hc : (x / ((b / Nat.gcd a b : Nat) : Int) * ((a / Nat.gcd a b : Nat) : Int)).natAbs ≤ (b + 1) * a := by
    rw [Int.natAbs_mul]
    exact Nat.mul_le_mul (by omega) hf
  have hs := Int.natAbs_add_le y (x / ((b / Nat.gcd a b : Nat) : Int) * ((a / Nat.gcd a b : Nat) : Int))
  have := rextended_core (x := x) (y := y) (lt_top60 ha) (lt_top60 hb) h0 (by have := lt_top60 hb; omega) hg rfl rfl hm (by unfold zabs; omega) (by unfold zabs; omega) (by unfold zabs; omega) (by unfold zabs; omega) (by unfold zabs; omega) hZ w
  rw [e1, e2] at this
  exact this
set_option maxHeartbeats 3200000 in
set_option maxRecDepth 100000 in
theorem ext_no1 {s t : ByteArray} (h : validB s = false) (hs : s.size ≤ 9223372036854775807) (w : World) : Calls Try.prog 46 #[.string s, .string t] w (Made w (.tuple #[.string ⟨#[]⟩, .agg #[.bool false, .string ⟨#[]⟩], .agg #[.bool false, .string ⟨#[]⟩], .int .i64 3])) := by
  have V1 := Lib.hid (fun W => valid_no h W hs)
  clear h
  go_enter Try.func46, Try.ntmps46
  go_wp2_with fail
  refine (V1.out _).mono ?_
  rintro e w' ⟨rfl, rfl⟩
  go_wp2
  exact bodyPost_ret (v := .tuple #[.string ⟨#[]⟩, .agg #[.bool false, .string ⟨#[]⟩], .agg #[.bool false, .string ⟨#[]⟩], .int .i64 3]) (by simp [results, Try.results46, go_sem]) rfl ⟨rfl, ((Below.refl _ _).alloc (Nat.le_refl _) _).alloc (by simp) _⟩
set_option maxHeartbeats 3200000 in
set_option maxRecDepth 100000 in
theorem ext_no2 {a : Nat} {t : ByteArray} (ha : a < Top) (h : validB t = false) (ht : t.size ≤ 9223372036854775807) (w : World) : Calls Try.prog 46 #[.string (bs a), .string t] w (Made w (.tuple #[.string ⟨#[]⟩, .agg #[.bool false, .string ⟨#[]⟩], .agg #[.bool false, .string ⟨#[]⟩], .int .i64 3])) := by
  have V1 := Lib.hid (fun W => valid_yes ha W)
  have V2 := Lib.hid (fun W => valid_no h W ht)
  clear h ha
  go_enter Try.func46, Try.ntmps46
  go_wp2_with fail
  refine (V1.out _).mono ?_
  rintro e w' ⟨rfl, rfl⟩
  go_wp2_with fail
  refine (V2.out _).mono ?_
  rintro e w' ⟨rfl, rfl⟩
  go_wp2
  exact bodyPost_ret (v := .tuple #[.string ⟨#[]⟩, .agg #[.bool false, .string ⟨#[]⟩], .agg #[.bool false, .string ⟨#[]⟩], .int .i64 3]) (by simp [results, Try.results46, go_sem]) rfl ⟨rfl, ((Below.refl _ _).alloc (Nat.le_refl _) _).alloc (by simp) _⟩
set_option maxHeartbeats 3200000 in
set_option maxRecDepth 100000 in
theorem rext_no1 {s t : ByteArray} (h : validB s = false) (hs : s.size ≤ 9223372036854775807) (w : World) : Calls Try.prog 47 #[.string s, .string t] w (Made w (.tuple #[.string ⟨#[]⟩, .agg #[.bool false, .string ⟨#[]⟩], .agg #[.bool false, .string ⟨#[]⟩], .int .i64 3])) := by
  have V1 := Lib.hid (fun W => rvalid_no h W hs)
  clear h
  go_enter Try.func47, Try.ntmps47
  go_wp2_with fail
  refine (V1.out _).mono ?_
  rintro e w' ⟨rfl, rfl⟩
  go_wp2
  exact bodyPost_ret (v := .tuple #[.string ⟨#[]⟩, .agg #[.bool false, .string ⟨#[]⟩], .agg #[.bool false, .string ⟨#[]⟩], .int .i64 3]) (by simp [results, Try.results47, go_sem]) rfl ⟨rfl, ((Below.refl _ _).alloc (Nat.le_refl _) _).alloc (by simp) _⟩
set_option maxHeartbeats 3200000 in
set_option maxRecDepth 100000 in
theorem rext_no2 {a : Nat} {t : ByteArray} (ha : a < Top) (h : validB t = false) (ht : t.size ≤ 9223372036854775807) (w : World) : Calls Try.prog 47 #[.string (bs a), .string t] w (Made w (.tuple #[.string ⟨#[]⟩, .agg #[.bool false, .string ⟨#[]⟩], .agg #[.bool false, .string ⟨#[]⟩], .int .i64 3])) := by
  have V1 := Lib.hid (fun W => rvalid_yes ha W)
  have V2 := Lib.hid (fun W => rvalid_no h W ht)
  clear h ha
  go_enter Try.func47, Try.ntmps47
  go_wp2_with fail
  refine (V1.out _).mono ?_
  rintro e w' ⟨rfl, rfl⟩
  go_wp2_with fail
  refine (V2.out _).mono ?_
  rintro e w' ⟨rfl, rfl⟩
  go_wp2
  exact bodyPost_ret (v := .tuple #[.string ⟨#[]⟩, .agg #[.bool false, .string ⟨#[]⟩], .agg #[.bool false, .string ⟨#[]⟩], .int .i64 3]) (by simp [results, Try.results47, go_sem]) rfl ⟨rfl, ((Below.refl _ _).alloc (Nat.le_refl _) _).alloc (by simp) _⟩
theorem law_iext (s t : ByteArray) (w : World) (hs : s.size ≤ 9223372036854775807) (ht : t.size ≤ 9223372036854775807) :
    Calls Try.prog 8 #[.string s, .string t] w (Made w (.bool true)) := by
  rcases Nat.lt_or_ge 60 s.size with h | h
  · exact iext_big s t hs ht (.inl h) w
  rcases Nat.lt_or_ge 60 t.size with g | g
  · exact iext_big s t hs ht (.inr ⟨h, g⟩) w
  rcases vs : validB s with _ | _
  · exact iext_core s t _ _ _ _ _ _ h g (fun W => ext_no1 vs hs W) (fun W => rext_no1 vs hs W) w
  obtain ⟨a, haT, rfl⟩ := bs_of_valid vs
  rcases vt : validB t with _ | _
  · exact iext_core _ t _ _ _ _ _ _ h g (fun W => ext_no2 haT vt ht W) (fun W => rext_no2 haT vt ht W) w
  obtain ⟨b, hbT, rfl⟩ := bs_of_valid vt
  have ha60 := bs_le.1 h
  have hb60 := bs_le.1 g
  by_cases h0 : b = 0
  · subst h0
    exact iext_core _ _ _ _ _ _ _ _ h g (fun W => extended_zero haT W) (fun W => rextended_zero haT W) w
  · obtain ⟨hs1, _⟩ := bez_spec b a
    have hx := ext_of h0 hs1
    exact iext_core _ _ _ _ _ _ _ _ h g (fun W => extended_pos ha60 hb60 h0 hx W) (fun W => rextended_pos ha60 hb60 h0 hx W) w
end Go.Proofs.Ytejadipdpohkoaa
