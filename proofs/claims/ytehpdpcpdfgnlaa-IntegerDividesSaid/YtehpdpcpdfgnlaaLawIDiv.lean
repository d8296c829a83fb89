/-
  dominolaw02.IntegerDivides returns true: the walk.
-/
import Derived.Test.YtehpdpcpdfgnlaaIntT
import Derived.Test.YtehpdpcpdfgnlaaIntM
namespace Go.Proofs.Ytehpdpcpdfgnlaa
open Go.RowKit Num

set_option maxHeartbeats 8000000 in
set_option maxRecDepth 100000 in
theorem idivides_core (p q : Bool) (s t m : ByteArray) (b1 b3 : Bool) (t1 t3 r1 r2 : ByteArray) (e1 e2 e3 : Int) (w : World) (hs : s.size ≤ 140) (ht : t.size ≤ 140) (hm : m.size ≤ 140)
    (C0 : ∀ W, Calls Try.prog 40 #[.agg #[.bool p, .string s], .agg #[.bool q, .string t]] W (Made W (.tuple #[.agg #[.bool b1, .string t1], .string r1, .int .i64 e1])))
    (C1 : ∀ W, Calls Try.prog 41 #[.agg #[.bool p, .string s], .agg #[.bool q, .string t]] W (Made W (.tuple #[.agg #[.bool b1, .string t1], .string r1, .int .i64 e1])))
    (C2 : ∀ W, Calls Try.prog 42 #[.agg #[.bool p, .string s], .string m] W (Made W (.tuple #[.string r2, .int .i64 e2])))
    (C3 : ∀ W, Calls Try.prog 43 #[.agg #[.bool p, .string s], .string m] W (Made W (.tuple #[.string r2, .int .i64 e2])))
    (C4 : ∀ W, Calls Try.prog 44 #[.agg #[.bool p, .string s], .agg #[.bool q, .string t]] W (Made W (.tuple #[.agg #[.bool b3, .string t3], .int .i64 e3])))
    (C5 : ∀ W, Calls Try.prog 45 #[.agg #[.bool p, .string s], .agg #[.bool q, .string t]] W (Made W (.tuple #[.agg #[.bool b3, .string t3], .int .i64 e3]))) :
    Calls Try.prog 7 #[.agg #[.bool p, .string s], .agg #[.bool q, .string t], .string m] w (Made w (.bool true)) := by
  have H0 := Lib.hid C0
  have H1 := Lib.hid C1
  have H2 := Lib.hid C2
  have H3 := Lib.hid C3
  have H4 := Lib.hid C4
  have H5 := Lib.hid C5
  clear C0 C1 C2 C3 C4 C5
  have K0 := ((Bk.new w #[.bool p, .string s] 37).alloc (.cells #[.bool q, .string t] 37)).alloc (.cells #[.bool p, .string s, .bool q, .string t] 37)
  have K1 := (Bk.new1 w (.cells #[.bool p, .string s] 37) #[.bool q, .string t] 37).alloc (.cells #[.bool p, .string s, .bool q, .string t] 37)
  have KS : Bk (((w.alloc (.cells #[.bool p, .string s] 37)).alloc (.cells #[.bool q, .string t] 37)).alloc (.cells #[.bool p, .string s, .bool q, .string t] 37)) (w.heap.size + 1 + 1) #[.bool p, .string s, .bool q, .string t] 37 := by
    have := Bk.new ((w.alloc (.cells #[.bool p, .string s] 37)).alloc (.cells #[.bool q, .string t] 37)) #[.bool p, .string s, .bool q, .string t] 37
    rwa [show ((w.alloc (.cells #[.bool p, .string s] 37)).alloc (.cells #[.bool q, .string t] 37)).heap.size = w.heap.size + 1 + 1 from by simp] at this
  have HV : Below w.heap.size w (((w.alloc (.cells #[.bool p, .string s] 37)).alloc (.cells #[.bool q, .string t] 37)).alloc (.cells #[.bool p, .string s, .bool q, .string t] 37)) := ((((Below.refl w.heap.size w).alloc (Nat.le_refl _) (.cells #[.bool p, .string s] 37)).alloc (by simp) (.cells #[.bool q, .string t] 37)).alloc (by simp; omega) (.cells #[.bool p, .string s, .bool q, .string t] 37))
  have HF := Lib.hid (long_no (w.heap.size + 1 + 1) 2 2 (fun k => if k = 0 then s else t) (((w.alloc (.cells #[.bool p, .string s] 37)).alloc (.cells #[.bool q, .string t] 37)).alloc (.cells #[.bool p, .string s, .bool q, .string t] 37)) (fun k hk => by
    match k, hk with
    | 0, _ => exact KS.cell 1
    | 1, _ => exact KS.cell 3) (by decide) (fun k hk => by
      match k, hk with
      | 0, _ => exact hs
      | 1, _ => exact ht))
  clear KS
  go_enter Try.func7, Try.ntmps7
  go_wp2_with fail
  refine HF.out.mono ?_
  rintro e w' ⟨rfl, rfl⟩
  go_wp2_with fail
  refine (H0.out _).mono ?_
  rintro e u1 ⟨rfl, hb⟩
  replace K0 := K0.below hb
  replace K1 := K1.below hb
  replace HV := HV.trans (hb.mono HV.size)
  clear hb
  have a0 : u1.cell? ⟨w.heap.size, 0, none⟩ = some (.bool p) := K0.cell 0
  have a1 : u1.cell? ⟨w.heap.size, 1, none⟩ = some (.string s) := K0.cell 1
  have a2 : u1.cell? ⟨w.heap.size + 1, 0, none⟩ = some (.bool q) := K1.cell 0
  have a3 : u1.cell? ⟨w.heap.size + 1, 1, none⟩ = some (.string t) := K1.cell 1
  have l0 : w.heap.size < u1.heap.size := K0.lt
  have l1 : w.heap.size + 1 < u1.heap.size := K1.lt
  replace K0 := K0.alloc (.cells #[.bool b1, .string t1] 37)
  replace K1 := K1.alloc (.cells #[.bool b1, .string t1] 37)
  have K5 := Bk.new u1 #[.bool b1, .string t1] 37
  replace HV := HV.alloc HV.size (.cells #[.bool b1, .string t1] 37)
  go_wp2_with fail
  refine (H1.out _).mono ?_
  rintro e u2 ⟨rfl, hb⟩
  replace K0 := K0.below hb
  replace K1 := K1.below hb
  replace K5 := K5.below hb
  replace HV := HV.trans (hb.mono HV.size)
  clear hb
  clear a0 a1 a2 a3 l0 l1
  have a0 : u2.cell? ⟨w.heap.size, 0, none⟩ = some (.bool p) := K0.cell 0
  have a1 : u2.cell? ⟨w.heap.size, 1, none⟩ = some (.string s) := K0.cell 1
  have a2 : u2.cell? ⟨w.heap.size + 1, 0, none⟩ = some (.bool q) := K1.cell 0
  have a3 : u2.cell? ⟨w.heap.size + 1, 1, none⟩ = some (.string t) := K1.cell 1
  have l0 : w.heap.size < u2.heap.size := K0.lt
  have l1 : w.heap.size + 1 < u2.heap.size := K1.lt
  replace K0 := K0.alloc (.cells #[.bool b1, .string t1] 37)
  replace K1 := K1.alloc (.cells #[.bool b1, .string t1] 37)
  replace K5 := K5.alloc (.cells #[.bool b1, .string t1] 37)
  have K6 := Bk.new u2 #[.bool b1, .string t1] 37
  replace HV := HV.alloc HV.size (.cells #[.bool b1, .string t1] 37)
  go_wp2_with fail
  refine (H2.out _).mono ?_
  rintro e u3 ⟨rfl, hb⟩
  replace K0 := K0.below hb
  replace K1 := K1.below hb
  replace K5 := K5.below hb
  replace K6 := K6.below hb
  replace HV := HV.trans (hb.mono HV.size)
  clear hb
  clear a0 a1 a2 a3 l0 l1
  have a0 : u3.cell? ⟨w.heap.size, 0, none⟩ = some (.bool p) := K0.cell 0
  have a1 : u3.cell? ⟨w.heap.size, 1, none⟩ = some (.string s) := K0.cell 1
  have a2 : u3.cell? ⟨w.heap.size + 1, 0, none⟩ = some (.bool q) := K1.cell 0
  have a3 : u3.cell? ⟨w.heap.size + 1, 1, none⟩ = some (.string t) := K1.cell 1
  have l0 : w.heap.size < u3.heap.size := K0.lt
  have l1 : w.heap.size + 1 < u3.heap.size := K1.lt
  go_wp2_with fail
  refine (H3.out _).mono ?_
  rintro e u4 ⟨rfl, hb⟩
  replace K0 := K0.below hb
  replace K1 := K1.below hb
  replace K5 := K5.below hb
  replace K6 := K6.below hb
  replace HV := HV.trans (hb.mono HV.size)
  clear hb
  clear a0 a1 a2 a3 l0 l1
  have a0 : u4.cell? ⟨w.heap.size, 0, none⟩ = some (.bool p) := K0.cell 0
  have a1 : u4.cell? ⟨w.heap.size, 1, none⟩ = some (.string s) := K0.cell 1
  have a2 : u4.cell? ⟨w.heap.size + 1, 0, none⟩ = some (.bool q) := K1.cell 0
  have a3 : u4.cell? ⟨w.heap.size + 1, 1, none⟩ = some (.string t) := K1.cell 1
  have l0 : w.heap.size < u4.heap.size := K0.lt
  have l1 : w.heap.size + 1 < u4.heap.size := K1.lt
  go_wp2_with fail
  refine (H4.out _).mono ?_
  rintro e u5 ⟨rfl, hb⟩
  replace K0 := K0.below hb
  replace K1 := K1.below hb
  replace K5 := K5.below hb
  replace K6 := K6.below hb
  replace HV := HV.trans (hb.mono HV.size)
  clear hb
  clear a0 a1 a2 a3 l0 l1
  have a0 : u5.cell? ⟨w.heap.size, 0, none⟩ = some (.bool p) := K0.cell 0
  have a1 : u5.cell? ⟨w.heap.size, 1, none⟩ = some (.string s) := K0.cell 1
  have a2 : u5.cell? ⟨w.heap.size + 1, 0, none⟩ = some (.bool q) := K1.cell 0
  have a3 : u5.cell? ⟨w.heap.size + 1, 1, none⟩ = some (.string t) := K1.cell 1
  have l0 : w.heap.size < u5.heap.size := K0.lt
  have l1 : w.heap.size + 1 < u5.heap.size := K1.lt
  replace K0 := K0.alloc (.cells #[.bool b3, .string t3] 37)
  replace K1 := K1.alloc (.cells #[.bool b3, .string t3] 37)
  replace K5 := K5.alloc (.cells #[.bool b3, .string t3] 37)
  replace K6 := K6.alloc (.cells #[.bool b3, .string t3] 37)
  have K9 := Bk.new u5 #[.bool b3, .string t3] 37
  replace HV := HV.alloc HV.size (.cells #[.bool b3, .string t3] 37)
  go_wp2_with fail
  refine (H5.out _).mono ?_
  rintro e u6 ⟨rfl, hb⟩
  replace K0 := K0.below hb
  replace K1 := K1.below hb
  replace K5 := K5.below hb
  replace K6 := K6.below hb
  replace K9 := K9.below hb
  replace HV := HV.trans (hb.mono HV.size)
  clear hb
  clear a0 a1 a2 a3 l0 l1
  have a0 : u6.cell? ⟨w.heap.size, 0, none⟩ = some (.bool p) := K0.cell 0
  have a1 : u6.cell? ⟨w.heap.size, 1, none⟩ = some (.string s) := K0.cell 1
  have a2 : u6.cell? ⟨w.heap.size + 1, 0, none⟩ = some (.bool q) := K1.cell 0
  have a3 : u6.cell? ⟨w.heap.size + 1, 1, none⟩ = some (.string t) := K1.cell 1
  have l0 : w.heap.size < u6.heap.size := K0.lt
  have l1 : w.heap.size + 1 < u6.heap.size := K1.lt
  replace K0 := K0.alloc (.cells #[.bool b3, .string t3] 37)
  replace K1 := K1.alloc (.cells #[.bool b3, .string t3] 37)
  replace K5 := K5.alloc (.cells #[.bool b3, .string t3] 37)
  replace K6 := K6.alloc (.cells #[.bool b3, .string t3] 37)
  replace K9 := K9.alloc (.cells #[.bool b3, .string t3] 37)
  have K10 := Bk.new u6 #[.bool b3, .string t3] 37
  replace HV := HV.alloc HV.size (.cells #[.bool b3, .string t3] 37)
  go_wp2_with fail
  refine (iawake_any _).mono ?_
  rintro e ua ⟨rfl, hb⟩
  replace K0 := K0.below hb
  replace K1 := K1.below hb
  replace K5 := K5.below hb
  replace K6 := K6.below hb
  replace K9 := K9.below hb
  replace K10 := K10.below hb
  replace HV := HV.trans (hb.mono HV.size)
  clear hb a0 a1 a2 a3 l0 l1
  have x0 : ua.cell? ⟨u1.heap.size, 0, none⟩ = some (.bool b1) := K5.cell 0
  have y0 : ua.cell? ⟨u1.heap.size, 1, none⟩ = some (.string t1) := K5.cell 1
  have x1 : ua.cell? ⟨u2.heap.size, 0, none⟩ = some (.bool b1) := K6.cell 0
  have y1 : ua.cell? ⟨u2.heap.size, 1, none⟩ = some (.string t1) := K6.cell 1
  have x2 : ua.cell? ⟨u5.heap.size, 0, none⟩ = some (.bool b3) := K9.cell 0
  have y2 : ua.cell? ⟨u5.heap.size, 1, none⟩ = some (.string t3) := K9.cell 1
  have x3 : ua.cell? ⟨u6.heap.size, 0, none⟩ = some (.bool b3) := K10.cell 0
  have y3 : ua.cell? ⟨u6.heap.size, 1, none⟩ = some (.string t3) := K10.cell 1
  go_wp2
  go_ret
  exact ⟨rfl, HV⟩

set_option maxHeartbeats 1000000 in
set_option maxRecDepth 100000 in
theorem idivides_big (p q : Bool) (s t m : ByteArray) (w : World) (hs : s.size ≤ 9223372036854775807) (ht : t.size ≤ 9223372036854775807) (h : 140 < s.size ∨ 140 < t.size) :
    Calls Try.prog 7 #[.agg #[.bool p, .string s], .agg #[.bool q, .string t], .string m] w (Made w (.bool true)) := by
  have K0 := ((Bk.new w #[.bool p, .string s] 37).alloc (.cells #[.bool q, .string t] 37)).alloc (.cells #[.bool p, .string s, .bool q, .string t] 37)
  have K1 := (Bk.new1 w (.cells #[.bool p, .string s] 37) #[.bool q, .string t] 37).alloc (.cells #[.bool p, .string s, .bool q, .string t] 37)
  have KS : Bk (((w.alloc (.cells #[.bool p, .string s] 37)).alloc (.cells #[.bool q, .string t] 37)).alloc (.cells #[.bool p, .string s, .bool q, .string t] 37)) (w.heap.size + 1 + 1) #[.bool p, .string s, .bool q, .string t] 37 := by
    have := Bk.new ((w.alloc (.cells #[.bool p, .string s] 37)).alloc (.cells #[.bool q, .string t] 37)) #[.bool p, .string s, .bool q, .string t] 37
    rwa [show ((w.alloc (.cells #[.bool p, .string s] 37)).alloc (.cells #[.bool q, .string t] 37)).heap.size = w.heap.size + 1 + 1 from by simp] at this
  have HV : Below w.heap.size w (((w.alloc (.cells #[.bool p, .string s] 37)).alloc (.cells #[.bool q, .string t] 37)).alloc (.cells #[.bool p, .string s, .bool q, .string t] 37)) := ((((Below.refl w.heap.size w).alloc (Nat.le_refl _) (.cells #[.bool p, .string s] 37)).alloc (by simp) (.cells #[.bool q, .string t] 37)).alloc (by simp; omega) (.cells #[.bool p, .string s, .bool q, .string t] 37))
  have HF := Lib.hid (long_yes (w.heap.size + 1 + 1) 2 2 (fun k => if k = 0 then s else t) (((w.alloc (.cells #[.bool p, .string s] 37)).alloc (.cells #[.bool q, .string t] 37)).alloc (.cells #[.bool p, .string s, .bool q, .string t] 37)) (fun k hk => by
    match k, hk with
    | 0, _ => exact KS.cell 1
    | 1, _ => exact KS.cell 3) (by decide) (fun k hk => by
      match k, hk with
      | 0, _ => exact hs
      | 1, _ => exact ht) (by
      rcases h with h | h
      · exact ⟨0, by omega, h⟩
      · exact ⟨1, by omega, h⟩))
  clear KS
  clear K0 K1
  go_enter Try.func7, Try.ntmps7
  go_wp2_with fail
  refine HF.out.mono ?_
  rintro e w' ⟨rfl, rfl⟩
  go_wp2_with fail
  refine (iawake_any _).mono ?_
  rintro e ua ⟨rfl, hb⟩
  replace HV := HV.trans (hb.mono HV.size)
  go_wp2
  go_ret
  exact ⟨rfl, HV⟩

set_option maxHeartbeats 1000000 in
set_option maxRecDepth 100000 in
theorem idivides_bigm (p q : Bool) (s t m : ByteArray) (w : World) (hs : s.size ≤ 140) (ht : t.size ≤ 140) (hm : m.size ≤ 9223372036854775807) (h : 140 < m.size) :
    Calls Try.prog 7 #[.agg #[.bool p, .string s], .agg #[.bool q, .string t], .string m] w (Made w (.bool true)) := by
  have K0 := ((Bk.new w #[.bool p, .string s] 37).alloc (.cells #[.bool q, .string t] 37)).alloc (.cells #[.bool p, .string s, .bool q, .string t] 37)
  have K1 := (Bk.new1 w (.cells #[.bool p, .string s] 37) #[.bool q, .string t] 37).alloc (.cells #[.bool p, .string s, .bool q, .string t] 37)
  have KS : Bk (((w.alloc (.cells #[.bool p, .string s] 37)).alloc (.cells #[.bool q, .string t] 37)).alloc (.cells #[.bool p, .string s, .bool q, .string t] 37)) (w.heap.size + 1 + 1) #[.bool p, .string s, .bool q, .string t] 37 := by
    have := Bk.new ((w.alloc (.cells #[.bool p, .string s] 37)).alloc (.cells #[.bool q, .string t] 37)) #[.bool p, .string s, .bool q, .string t] 37
    rwa [show ((w.alloc (.cells #[.bool p, .string s] 37)).alloc (.cells #[.bool q, .string t] 37)).heap.size = w.heap.size + 1 + 1 from by simp] at this
  have HV : Below w.heap.size w (((w.alloc (.cells #[.bool p, .string s] 37)).alloc (.cells #[.bool q, .string t] 37)).alloc (.cells #[.bool p, .string s, .bool q, .string t] 37)) := ((((Below.refl w.heap.size w).alloc (Nat.le_refl _) (.cells #[.bool p, .string s] 37)).alloc (by simp) (.cells #[.bool q, .string t] 37)).alloc (by simp; omega) (.cells #[.bool p, .string s, .bool q, .string t] 37))
  have HF := Lib.hid (long_no (w.heap.size + 1 + 1) 2 2 (fun k => if k = 0 then s else t) (((w.alloc (.cells #[.bool p, .string s] 37)).alloc (.cells #[.bool q, .string t] 37)).alloc (.cells #[.bool p, .string s, .bool q, .string t] 37)) (fun k hk => by
    match k, hk with
    | 0, _ => exact KS.cell 1
    | 1, _ => exact KS.cell 3) (by decide) (fun k hk => by
      match k, hk with
      | 0, _ => exact hs
      | 1, _ => exact ht))
  clear KS
  clear K0 K1
  go_enter Try.func7, Try.ntmps7
  go_wp2_with fail
  refine HF.out.mono ?_
  rintro e w' ⟨rfl, rfl⟩
  go_wp2_with fail
  refine (iawake_any _).mono ?_
  rintro e ua ⟨rfl, hb⟩
  replace HV := HV.trans (hb.mono HV.size)
  go_wp2
  go_ret
  exact ⟨rfl, HV⟩

theorem both_divmod (p q : Bool) (s t : ByteArray) (hs : s.size ≤ 9223372036854775807) (ht : t.size ≤ 9223372036854775807) : ∃ (z : Int) (r : Nat) (e : Int),
    (∀ W, Calls Try.prog 40 #[.agg #[.bool p, .string s], .agg #[.bool q, .string t]] W (Made W (.tuple #[(.agg #[.bool (zneg z), .string (bs (zabs z))]), .string (bs r), .int .i64 e]))) ∧
    (∀ W, Calls Try.prog 41 #[.agg #[.bool p, .string s], .agg #[.bool q, .string t]] W (Made W (.tuple #[(.agg #[.bool (zneg z), .string (bs (zabs z))]), .string (bs r), .int .i64 e]))) := by
  rcases h1 : vI p s with _ | _
  · exact ⟨0, 0, 3, fun W => idivmod_no1 h1 hs W, fun W => ridivmod_no1 h1 hs W⟩
  · obtain ⟨x, hx, rfl, rfl⟩ := vI_of h1
    rcases h2 : vI q t with _ | _
    · exact ⟨0, 0, 3, fun W => idivmod_no2 hx h2 ht W, fun W => ridivmod_no2 hx h2 ht W⟩
    · obtain ⟨y, hy, rfl, rfl⟩ := vI_of h2
      by_cases h0 : zabs y = 0
      · rw [zabs_zero] at h0
        subst h0
        exact ⟨0, 0, 11, fun W => idivmod_by0 hx W, fun W => ridivmod_by0 hx W⟩
      · exact ⟨_, _, 0, fun W => idivmod_ok hx hy h0 W, fun W => ridivmod_ok hx hy h0 W⟩
theorem both_divide (p q : Bool) (s t : ByteArray) (hs : s.size ≤ 9223372036854775807) (ht : t.size ≤ 9223372036854775807) : ∃ (z : Int) (e : Int),
    (∀ W, Calls Try.prog 44 #[.agg #[.bool p, .string s], .agg #[.bool q, .string t]] W (Made W (.tuple #[(.agg #[.bool (zneg z), .string (bs (zabs z))]), .int .i64 e]))) ∧
    (∀ W, Calls Try.prog 45 #[.agg #[.bool p, .string s], .agg #[.bool q, .string t]] W (Made W (.tuple #[(.agg #[.bool (zneg z), .string (bs (zabs z))]), .int .i64 e]))) := by
  obtain ⟨z, r, e, c0, c1⟩ := both_divmod p q s t hs ht
  by_cases he : e = 0
  · subst he
    by_cases hr : r = 0
    · subst hr
      exact ⟨z, 0, fun W => idivide_ok W c0, fun W => ridivide_ok W c1⟩
    · exact ⟨0, 1, fun W => idivide_arg hr W c0, fun W => ridivide_arg hr W c1⟩
  · exact ⟨0, e, fun W => idivide_err he W c0, fun W => ridivide_err he W c1⟩
theorem both_mod (p : Bool) (s m : ByteArray) (hs : s.size ≤ 9223372036854775807) (hm : m.size ≤ 9223372036854775807) : ∃ (r : Nat) (e : Int),
    (∀ W, Calls Try.prog 42 #[.agg #[.bool p, .string s], .string m] W (Made W (.tuple #[.string (bs r), .int .i64 e]))) ∧
    (∀ W, Calls Try.prog 43 #[.agg #[.bool p, .string s], .string m] W (Made W (.tuple #[.string (bs r), .int .i64 e]))) := by
  rcases h1 : vI p s with _ | _
  · exact ⟨0, 3, fun W => imod_no1 h1 hs W, fun W => rimod_no1 h1 hs W⟩
  · obtain ⟨x, hx, rfl, rfl⟩ := vI_of h1
    rcases h2 : validB m with _ | _
    · exact ⟨0, 3, fun W => imod_no2 hx h2 hm W, fun W => rimod_no2 hx h2 hm W⟩
    · obtain ⟨n, hn, rfl⟩ := bs_of_valid h2
      by_cases h0 : n = 0
      · subst h0
        exact ⟨0, 11, fun W => imod_by0 hx W, fun W => rimod_by0 hx W⟩
      · exact ⟨_, 0, fun W => imod_ok hx hn h0 W, fun W => rimod_ok hx hn h0 W⟩
theorem law_idivides (p q : Bool) (s t m : ByteArray) (w : World) (hs : s.size ≤ 9223372036854775807) (ht : t.size ≤ 9223372036854775807) (hm : m.size ≤ 9223372036854775807) :
    Calls Try.prog 7 #[.agg #[.bool p, .string s], .agg #[.bool q, .string t], .string m] w (Made w (.bool true)) := by
  by_cases h : 140 < s.size ∨ 140 < t.size
  · exact idivides_big p q s t m w hs ht h
  by_cases h2 : 140 < m.size
  · exact idivides_bigm p q s t m w (by omega) (by omega) hm h2
  obtain ⟨z1, r1, e1, c0, c1⟩ := both_divmod p q s t hs ht
  obtain ⟨r2, e2, c2, c3⟩ := both_mod p s m hs hm
  obtain ⟨z3, e3, c4, c5⟩ := both_divide p q s t hs ht
  exact idivides_core p q s t m _ _ _ _ _ _ e1 e2 e3 w (by omega) (by omega) (by omega) c0 c1 c2 c3 c4 c5

end Go.Proofs.Ytehpdpcpdfgnlaa
