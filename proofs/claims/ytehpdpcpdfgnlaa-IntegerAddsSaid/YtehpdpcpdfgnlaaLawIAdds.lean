/-
  dominolaw02.IntegerAdds returns true: the walk.
-/
import Derived.Test.YtehpdpcpdfgnlaaIntT
namespace Go.Proofs.Ytehpdpcpdfgnlaa
open Go.RowKit Num

set_option maxHeartbeats 8000000 in
set_option maxRecDepth 100000 in
theorem iadds_core (p q : Bool) (s t : ByteArray) (b1 b2 b3 : Bool) (t1 t2 t3 : ByteArray) (e1 e2 e3 : Int) (w : World) (hs : s.size ≤ 140) (ht : t.size ≤ 140)
    (h1 : e1 = 0 ∨ (e1 ≠ 0 ∧ b1 = false ∧ t1 = ⟨#[]⟩)) (h2 : e2 = 0 ∨ (e2 ≠ 0 ∧ b2 = false ∧ t2 = ⟨#[]⟩)) (h3 : e3 = 0 ∨ (e3 ≠ 0 ∧ b3 = false ∧ t3 = ⟨#[]⟩))
    (C0 : ∀ W, Calls Try.prog 34 #[.agg #[.bool p, .string s], .agg #[.bool q, .string t]] W (Made W (.tuple #[.agg #[.bool b1, .string t1], .int .i64 e1])))
    (C1 : ∀ W, Calls Try.prog 35 #[.agg #[.bool p, .string s], .agg #[.bool q, .string t]] W (Made W (.tuple #[.agg #[.bool b1, .string t1], .int .i64 e1])))
    (C2 : ∀ W, Calls Try.prog 36 #[.agg #[.bool p, .string s], .agg #[.bool q, .string t]] W (Made W (.tuple #[.agg #[.bool b2, .string t2], .int .i64 e2])))
    (C3 : ∀ W, Calls Try.prog 37 #[.agg #[.bool p, .string s], .agg #[.bool q, .string t]] W (Made W (.tuple #[.agg #[.bool b2, .string t2], .int .i64 e2])))
    (C4 : ∀ W, Calls Try.prog 38 #[.agg #[.bool p, .string s], .agg #[.bool q, .string t]] W (Made W (.tuple #[.agg #[.bool b3, .string t3], .int .i64 e3])))
    (C5 : ∀ W, Calls Try.prog 39 #[.agg #[.bool p, .string s], .agg #[.bool q, .string t]] W (Made W (.tuple #[.agg #[.bool b3, .string t3], .int .i64 e3]))) :
    Calls Try.prog 6 #[.agg #[.bool p, .string s], .agg #[.bool q, .string t]] w (Made w (.bool true)) := by
  have H0 := Lib.hid C0
  have H1 := Lib.hid C1
  have H2 := Lib.hid C2
  have H3 := Lib.hid C3
  have H4 := Lib.hid C4
  have H5 := Lib.hid C5
  clear C0 C1 C2 C3 C4 C5
  have K0 := ((Bk.new w #[.bool p, .string s] 37).alloc (.cells #[.bool q, .string t] 37)).alloc (.cells #[.bool p, .string s, .bool q, .string t] 37)
  have K1 := (Bk.new1 w (.cells #[.bool p, .string s] 37) #[.bool q, .string t] 37).alloc (.cells #[.bool p, .string s, .bool q, .string t] 37)
  have KS : Bk (((w.alloc (.cells #[.bool p, .string s] 37)).alloc (.cells #[.bool q, .string t] 37)).alloc (.cells #[.bool p, .string s, .bool q, .string t] 37)) (w.heap.size + 1 + 1) #[.bool p, .string s, .bool q, .string t] 37 := by
    have := Bk.new ((w.alloc (.cells #[.bool p, .string s] 37)).alloc (.cells #[.bool q, .string t] 37)) #[.bool p, .string s, .bool q, .string t] 37
    rwa [show ((w.alloc (.cells #[.bool p, .string s] 37)).alloc (.cells #[.bool q, .string t] 37)).heap.size = w.heap.size + 1 + 1 from by simp] at this
  have HV : Below w.heap.size w (((w.alloc (.cells #[.bool p, .string s] 37)).alloc (.cells #[.bool q, .string t] 37)).alloc (.cells #[.bool p, .string s, .bool q, .string t] 37)) := ((((Below.refl w.heap.size w).alloc (Nat.le_refl _) (.cells #[.bool p, .string s] 37)).alloc (by simp) (.cells #[.bool q, .string t] 37)).alloc (by simp; omega) (.cells #[.bool p, .string s, .bool q, .string t] 37))
  have HF := Lib.hid (long_no (w.heap.size + 1 + 1) 2 2 (fun k => if k = 0 then s else t) (((w.alloc (.cells #[.bool p, .string s] 37)).alloc (.cells #[.bool q, .string t] 37)).alloc (.cells #[.bool p, .string s, .bool q, .string t] 37)) (fun k hk => by
    match k, hk with
    | 0, _ => exact KS.cell 1
    | 1, _ => exact KS.cell 3) (by decide) (fun k hk => by
      match k, hk with
      | 0, _ => exact hs
      | 1, _ => exact ht))
  clear KS
  rcases h1 with rfl | ⟨n1, rfl, rfl⟩ <;> rcases h2 with rfl | ⟨n2, rfl, rfl⟩ <;> rcases h3 with rfl | ⟨n3, rfl, rfl⟩
  · go_enter Try.func6, Try.ntmps6
    go_wp2_with fail
    refine HF.out.mono ?_
    rintro e w' ⟨rfl, rfl⟩
    go_wp2_with fail
    refine (H0.out _).mono ?_
    rintro e u1 ⟨rfl, hb⟩
    replace K0 := K0.below hb
    replace K1 := K1.below hb
    replace HV := HV.trans (hb.mono HV.size)
    clear hb
    have a0 : u1.cell? ⟨w.heap.size, 0, none⟩ = some (.bool p) := K0.cell 0
    have a1 : u1.cell? ⟨w.heap.size, 1, none⟩ = some (.string s) := K0.cell 1
    have a2 : u1.cell? ⟨w.heap.size + 1, 0, none⟩ = some (.bool q) := K1.cell 0
    have a3 : u1.cell? ⟨w.heap.size + 1, 1, none⟩ = some (.string t) := K1.cell 1
    have l0 : w.heap.size < u1.heap.size := K0.lt
    have l1 : w.heap.size + 1 < u1.heap.size := K1.lt
    replace K0 := K0.alloc (.cells #[.bool b1, .string t1] 37)
    replace K1 := K1.alloc (.cells #[.bool b1, .string t1] 37)
    have K5 := Bk.new u1 #[.bool b1, .string t1] 37
    replace HV := HV.alloc HV.size (.cells #[.bool b1, .string t1] 37)
    go_wp2_with fail
    refine (H1.out _).mono ?_
    rintro e u2 ⟨rfl, hb⟩
    replace K0 := K0.below hb
    replace K1 := K1.below hb
    replace K5 := K5.below hb
    replace HV := HV.trans (hb.mono HV.size)
    clear hb
    clear a0 a1 a2 a3 l0 l1
    have a0 : u2.cell? ⟨w.heap.size, 0, none⟩ = some (.bool p) := K0.cell 0
    have a1 : u2.cell? ⟨w.heap.size, 1, none⟩ = some (.string s) := K0.cell 1
    have a2 : u2.cell? ⟨w.heap.size + 1, 0, none⟩ = some (.bool q) := K1.cell 0
    have a3 : u2.cell? ⟨w.heap.size + 1, 1, none⟩ = some (.string t) := K1.cell 1
    have l0 : w.heap.size < u2.heap.size := K0.lt
    have l1 : w.heap.size + 1 < u2.heap.size := K1.lt
    replace K0 := K0.alloc (.cells #[.bool b1, .string t1] 37)
    replace K1 := K1.alloc (.cells #[.bool b1, .string t1] 37)
    replace K5 := K5.alloc (.cells #[.bool b1, .string t1] 37)
    have K7 := Bk.new u2 #[.bool b1, .string t1] 37
    replace HV := HV.alloc HV.size (.cells #[.bool b1, .string t1] 37)
    go_wp2_with fail
    refine (H2.out _).mono ?_
    rintro e u3 ⟨rfl, hb⟩
    replace K0 := K0.below hb
    replace K1 := K1.below hb
    replace K5 := K5.below hb
    replace K7 := K7.below hb
    replace HV := HV.trans (hb.mono HV.size)
    clear hb
    clear a0 a1 a2 a3 l0 l1
    have a0 : u3.cell? ⟨w.heap.size, 0, none⟩ = some (.bool p) := K0.cell 0
    have a1 : u3.cell? ⟨w.heap.size, 1, none⟩ = some (.string s) := K0.cell 1
    have a2 : u3.cell? ⟨w.heap.size + 1, 0, none⟩ = some (.bool q) := K1.cell 0
    have a3 : u3.cell? ⟨w.heap.size + 1, 1, none⟩ = some (.string t) := K1.cell 1
    have l0 : w.heap.size < u3.heap.size := K0.lt
    have l1 : w.heap.size + 1 < u3.heap.size := K1.lt
    replace K0 := K0.alloc (.cells #[.bool b2, .string t2] 37)
    replace K1 := K1.alloc (.cells #[.bool b2, .string t2] 37)
    replace K5 := K5.alloc (.cells #[.bool b2, .string t2] 37)
    replace K7 := K7.alloc (.cells #[.bool b2, .string t2] 37)
    have K9 := Bk.new u3 #[.bool b2, .string t2] 37
    replace HV := HV.alloc HV.size (.cells #[.bool b2, .string t2] 37)
    go_wp2_with fail
    refine (H3.out _).mono ?_
    rintro e u4 ⟨rfl, hb⟩
    replace K0 := K0.below hb
    replace K1 := K1.below hb
    replace K5 := K5.below hb
    replace K7 := K7.below hb
    replace K9 := K9.below hb
    replace HV := HV.trans (hb.mono HV.size)
    clear hb
    clear a0 a1 a2 a3 l0 l1
    have a0 : u4.cell? ⟨w.heap.size, 0, none⟩ = some (.bool p) := K0.cell 0
    have a1 : u4.cell? ⟨w.heap.size, 1, none⟩ = some (.string s) := K0.cell 1
    have a2 : u4.cell? ⟨w.heap.size + 1, 0, none⟩ = some (.bool q) := K1.cell 0
    have a3 : u4.cell? ⟨w.heap.size + 1, 1, none⟩ = some (.string t) := K1.cell 1
    have l0 : w.heap.size < u4.heap.size := K0.lt
    have l1 : w.heap.size + 1 < u4.heap.size := K1.lt
    replace K0 := K0.alloc (.cells #[.bool b2, .string t2] 37)
    replace K1 := K1.alloc (.cells #[.bool b2, .string t2] 37)
    replace K5 := K5.alloc (.cells #[.bool b2, .string t2] 37)
    replace K7 := K7.alloc (.cells #[.bool b2, .string t2] 37)
    replace K9 := K9.alloc (.cells #[.bool b2, .string t2] 37)
    have K11 := Bk.new u4 #[.bool b2, .string t2] 37
    replace HV := HV.alloc HV.size (.cells #[.bool b2, .string t2] 37)
    go_wp2_with fail
    refine (H4.out _).mono ?_
    rintro e u5 ⟨rfl, hb⟩
    replace K0 := K0.below hb
    replace K1 := K1.below hb
    replace K5 := K5.below hb
    replace K7 := K7.below hb
    replace K9 := K9.below hb
    replace K11 := K11.below hb
    replace HV := HV.trans (hb.mono HV.size)
    clear hb
    clear a0 a1 a2 a3 l0 l1
    have a0 : u5.cell? ⟨w.heap.size, 0, none⟩ = some (.bool p) := K0.cell 0
    have a1 : u5.cell? ⟨w.heap.size, 1, none⟩ = some (.string s) := K0.cell 1
    have a2 : u5.cell? ⟨w.heap.size + 1, 0, none⟩ = some (.bool q) := K1.cell 0
    have a3 : u5.cell? ⟨w.heap.size + 1, 1, none⟩ = some (.string t) := K1.cell 1
    have l0 : w.heap.size < u5.heap.size := K0.lt
    have l1 : w.heap.size + 1 < u5.heap.size := K1.lt
    replace K0 := K0.alloc (.cells #[.bool b3, .string t3] 37)
    replace K1 := K1.alloc (.cells #[.bool b3, .string t3] 37)
    replace K5 := K5.alloc (.cells #[.bool b3, .string t3] 37)
    replace K7 := K7.alloc (.cells #[.bool b3, .string t3] 37)
    replace K9 := K9.alloc (.cells #[.bool b3, .string t3] 37)
    replace K11 := K11.alloc (.cells #[.bool b3, .string t3] 37)
    have K13 := Bk.new u5 #[.bool b3, .string t3] 37
    replace HV := HV.alloc HV.size (.cells #[.bool b3, .string t3] 37)
    go_wp2_with fail
    refine (H5.out _).mono ?_
    rintro e u6 ⟨rfl, hb⟩
    replace K0 := K0.below hb
    replace K1 := K1.below hb
    replace K5 := K5.below hb
    replace K7 := K7.below hb
    replace K9 := K9.below hb
    replace K11 := K11.below hb
    replace K13 := K13.below hb
    replace HV := HV.trans (hb.mono HV.size)
    clear hb
    clear a0 a1 a2 a3 l0 l1
    have a0 : u6.cell? ⟨w.heap.size, 0, none⟩ = some (.bool p) := K0.cell 0
    have a1 : u6.cell? ⟨w.heap.size, 1, none⟩ = some (.string s) := K0.cell 1
    have a2 : u6.cell? ⟨w.heap.size + 1, 0, none⟩ = some (.bool q) := K1.cell 0
    have a3 : u6.cell? ⟨w.heap.size + 1, 1, none⟩ = some (.string t) := K1.cell 1
    have l0 : w.heap.size < u6.heap.size := K0.lt
    have l1 : w.heap.size + 1 < u6.heap.size := K1.lt
    replace K0 := K0.alloc (.cells #[.bool b3, .string t3] 37)
    replace K1 := K1.alloc (.cells #[.bool b3, .string t3] 37)
    replace K5 := K5.alloc (.cells #[.bool b3, .string t3] 37)
    replace K7 := K7.alloc (.cells #[.bool b3, .string t3] 37)
    replace K9 := K9.alloc (.cells #[.bool b3, .string t3] 37)
    replace K11 := K11.alloc (.cells #[.bool b3, .string t3] 37)
    replace K13 := K13.alloc (.cells #[.bool b3, .string t3] 37)
    have K15 := Bk.new u6 #[.bool b3, .string t3] 37
    replace HV := HV.alloc HV.size (.cells #[.bool b3, .string t3] 37)
    go_wp2_with fail
    refine (iawake_any _).mono ?_
    rintro e ua ⟨rfl, hb⟩
    replace K0 := K0.below hb
    replace K1 := K1.below hb
    replace K5 := K5.below hb
    replace K7 := K7.below hb
    replace K9 := K9.below hb
    replace K11 := K11.below hb
    replace K13 := K13.below hb
    replace K15 := K15.below hb
    replace HV := HV.trans (hb.mono HV.size)
    clear hb a0 a1 a2 a3 l0 l1
    have x0 : ua.cell? ⟨u1.heap.size, 0, none⟩ = some (.bool b1) := K5.cell 0
    have y0 : ua.cell? ⟨u1.heap.size, 1, none⟩ = some (.string t1) := K5.cell 1
    have x1 : ua.cell? ⟨u2.heap.size, 0, none⟩ = some (.bool b1) := K7.cell 0
    have y1 : ua.cell? ⟨u2.heap.size, 1, none⟩ = some (.string t1) := K7.cell 1
    have x2 : ua.cell? ⟨u3.heap.size, 0, none⟩ = some (.bool b2) := K9.cell 0
    have y2 : ua.cell? ⟨u3.heap.size, 1, none⟩ = some (.string t2) := K9.cell 1
    have x3 : ua.cell? ⟨u4.heap.size, 0, none⟩ = some (.bool b2) := K11.cell 0
    have y3 : ua.cell? ⟨u4.heap.size, 1, none⟩ = some (.string t2) := K11.cell 1
    have x4 : ua.cell? ⟨u5.heap.size, 0, none⟩ = some (.bool b3) := K13.cell 0
    have y4 : ua.cell? ⟨u5.heap.size, 1, none⟩ = some (.string t3) := K13.cell 1
    have x5 : ua.cell? ⟨u6.heap.size, 0, none⟩ = some (.bool b3) := K15.cell 0
    have y5 : ua.cell? ⟨u6.heap.size, 1, none⟩ = some (.string t3) := K15.cell 1
    go_wp2
    go_ret
    exact ⟨rfl, HV⟩
  · have z3 : (e3 == 0) = false := by rw [beq_eq_false_iff_ne]; exact n3
    clear n3
    go_enter Try.func6, Try.ntmps6
    go_wp2_with fail
    refine HF.out.mono ?_
    rintro e w' ⟨rfl, rfl⟩
    go_wp2_with fail
    refine (H0.out _).mono ?_
    rintro e u1 ⟨rfl, hb⟩
    replace K0 := K0.below hb
    replace K1 := K1.below hb
    replace HV := HV.trans (hb.mono HV.size)
    clear hb
    have a0 : u1.cell? ⟨w.heap.size, 0, none⟩ = some (.bool p) := K0.cell 0
    have a1 : u1.cell? ⟨w.heap.size, 1, none⟩ = some (.string s) := K0.cell 1
    have a2 : u1.cell? ⟨w.heap.size + 1, 0, none⟩ = some (.bool q) := K1.cell 0
    have a3 : u1.cell? ⟨w.heap.size + 1, 1, none⟩ = some (.string t) := K1.cell 1
    have l0 : w.heap.size < u1.heap.size := K0.lt
    have l1 : w.heap.size + 1 < u1.heap.size := K1.lt
    replace K0 := K0.alloc (.cells #[.bool b1, .string t1] 37)
    replace K1 := K1.alloc (.cells #[.bool b1, .string t1] 37)
    have K5 := Bk.new u1 #[.bool b1, .string t1] 37
    replace HV := HV.alloc HV.size (.cells #[.bool b1, .string t1] 37)
    go_wp2_with fail
    refine (H1.out _).mono ?_
    rintro e u2 ⟨rfl, hb⟩
    replace K0 := K0.below hb
    replace K1 := K1.below hb
    replace K5 := K5.below hb
    replace HV := HV.trans (hb.mono HV.size)
    clear hb
    clear a0 a1 a2 a3 l0 l1
    have a0 : u2.cell? ⟨w.heap.size, 0, none⟩ = some (.bool p) := K0.cell 0
    have a1 : u2.cell? ⟨w.heap.size, 1, none⟩ = some (.string s) := K0.cell 1
    have a2 : u2.cell? ⟨w.heap.size + 1, 0, none⟩ = some (.bool q) := K1.cell 0
    have a3 : u2.cell? ⟨w.heap.size + 1, 1, none⟩ = some (.string t) := K1.cell 1
    have l0 : w.heap.size < u2.heap.size := K0.lt
    have l1 : w.heap.size + 1 < u2.heap.size := K1.lt
    replace K0 := K0.alloc (.cells #[.bool b1, .string t1] 37)
    replace K1 := K1.alloc (.cells #[.bool b1, .string t1] 37)
    replace K5 := K5.alloc (.cells #[.bool b1, .string t1] 37)
    have K7 := Bk.new u2 #[.bool b1, .string t1] 37
    replace HV := HV.alloc HV.size (.cells #[.bool b1, .string t1] 37)
    go_wp2_with fail
    refine (H2.out _).mono ?_
    rintro e u3 ⟨rfl, hb⟩
    replace K0 := K0.below hb
    replace K1 := K1.below hb
    replace K5 := K5.below hb
    replace K7 := K7.below hb
    replace HV := HV.trans (hb.mono HV.size)
    clear hb
    clear a0 a1 a2 a3 l0 l1
    have a0 : u3.cell? ⟨w.heap.size, 0, none⟩ = some (.bool p) := K0.cell 0
    have a1 : u3.cell? ⟨w.heap.size, 1, none⟩ = some (.string s) := K0.cell 1
    have a2 : u3.cell? ⟨w.heap.size + 1, 0, none⟩ = some (.bool q) := K1.cell 0
    have a3 : u3.cell? ⟨w.heap.size + 1, 1, none⟩ = some (.string t) := K1.cell 1
    have l0 : w.heap.size < u3.heap.size := K0.lt
    have l1 : w.heap.size + 1 < u3.heap.size := K1.lt
    replace K0 := K0.alloc (.cells #[.bool b2, .string t2] 37)
    replace K1 := K1.alloc (.cells #[.bool b2, .string t2] 37)
    replace K5 := K5.alloc (.cells #[.bool b2, .string t2] 37)
    replace K7 := K7.alloc (.cells #[.bool b2, .string t2] 37)
    have K9 := Bk.new u3 #[.bool b2, .string t2] 37
    replace HV := HV.alloc HV.size (.cells #[.bool b2, .string t2] 37)
    go_wp2_with fail
    refine (H3.out _).mono ?_
    rintro e u4 ⟨rfl, hb⟩
    replace K0 := K0.below hb
    replace K1 := K1.below hb
    replace K5 := K5.below hb
    replace K7 := K7.below hb
    replace K9 := K9.below hb
    replace HV := HV.trans (hb.mono HV.size)
    clear hb
    clear a0 a1 a2 a3 l0 l1
    have a0 : u4.cell? ⟨w.heap.size, 0, none⟩ = some (.bool p) := K0.cell 0
    have a1 : u4.cell? ⟨w.heap.size, 1, none⟩ = some (.string s) := K0.cell 1
    have a2 : u4.cell? ⟨w.heap.size + 1, 0, none⟩ = some (.bool q) := K1.cell 0
    have a3 : u4.cell? ⟨w.heap.size + 1, 1, none⟩ = some (.string t) := K1.cell 1
    have l0 : w.heap.size < u4.heap.size := K0.lt
    have l1 : w.heap.size + 1 < u4.heap.size := K1.lt
    replace K0 := K0.alloc (.cells #[.bool b2, .string t2] 37)
    replace K1 := K1.alloc (.cells #[.bool b2, .string t2] 37)
    replace K5 := K5.alloc (.cells #[.bool b2, .string t2] 37)
    replace K7 := K7.alloc (.cells #[.bool b2, .string t2] 37)
    replace K9 := K9.alloc (.cells #[.bool b2, .string t2] 37)
    have K11 := Bk.new u4 #[.bool b2, .string t2] 37
    replace HV := HV.alloc HV.size (.cells #[.bool b2, .string t2] 37)
    go_wp2_with fail
    refine (H4.out _).mono ?_
    rintro e u5 ⟨rfl, hb⟩
    replace K0 := K0.below hb
    replace K1 := K1.below hb
    replace K5 := K5.below hb
    replace K7 := K7.below hb
    replace K9 := K9.below hb
    replace K11 := K11.below hb
    replace HV := HV.trans (hb.mono HV.size)
    clear hb
    clear a0 a1 a2 a3 l0 l1
    have a0 : u5.cell? ⟨w.heap.size, 0, none⟩ = some (.bool p) := K0.cell 0
    have a1 : u5.cell? ⟨w.heap.size, 1, none⟩ = some (.string s) := K0.cell 1
    have a2 : u5.cell? ⟨w.heap.size + 1, 0, none⟩ = some (.bool q) := K1.cell 0
    have a3 : u5.cell? ⟨w.heap.size + 1, 1, none⟩ = some (.string t) := K1.cell 1
    have l0 : w.heap.size < u5.heap.size := K0.lt
    have l1 : w.heap.size + 1 < u5.heap.size := K1.lt
    replace K0 := K0.alloc (.cells #[.bool false, .string ⟨#[]⟩] 37)
    replace K1 := K1.alloc (.cells #[.bool false, .string ⟨#[]⟩] 37)
    replace K5 := K5.alloc (.cells #[.bool false, .string ⟨#[]⟩] 37)
    replace K7 := K7.alloc (.cells #[.bool false, .string ⟨#[]⟩] 37)
    replace K9 := K9.alloc (.cells #[.bool false, .string ⟨#[]⟩] 37)
    replace K11 := K11.alloc (.cells #[.bool false, .string ⟨#[]⟩] 37)
    have K13 := Bk.new u5 #[.bool false, .string ⟨#[]⟩] 37
    replace HV := HV.alloc HV.size (.cells #[.bool false, .string ⟨#[]⟩] 37)
    go_wp2_with fail
    refine (H5.out _).mono ?_
    rintro e u6 ⟨rfl, hb⟩
    replace K0 := K0.below hb
    replace K1 := K1.below hb
    replace K5 := K5.below hb
    replace K7 := K7.below hb
    replace K9 := K9.below hb
    replace K11 := K11.below hb
    replace K13 := K13.below hb
    replace HV := HV.trans (hb.mono HV.size)
    clear hb
    clear a0 a1 a2 a3 l0 l1
    have a0 : u6.cell? ⟨w.heap.size, 0, none⟩ = some (.bool p) := K0.cell 0
    have a1 : u6.cell? ⟨w.heap.size, 1, none⟩ = some (.string s) := K0.cell 1
    have a2 : u6.cell? ⟨w.heap.size + 1, 0, none⟩ = some (.bool q) := K1.cell 0
    have a3 : u6.cell? ⟨w.heap.size + 1, 1, none⟩ = some (.string t) := K1.cell 1
    have l0 : w.heap.size < u6.heap.size := K0.lt
    have l1 : w.heap.size + 1 < u6.heap.size := K1.lt
    replace K0 := K0.alloc (.cells #[.bool false, .string ⟨#[]⟩] 37)
    replace K1 := K1.alloc (.cells #[.bool false, .string ⟨#[]⟩] 37)
    replace K5 := K5.alloc (.cells #[.bool false, .string ⟨#[]⟩] 37)
    replace K7 := K7.alloc (.cells #[.bool false, .string ⟨#[]⟩] 37)
    replace K9 := K9.alloc (.cells #[.bool false, .string ⟨#[]⟩] 37)
    replace K11 := K11.alloc (.cells #[.bool false, .string ⟨#[]⟩] 37)
    replace K13 := K13.alloc (.cells #[.bool false, .string ⟨#[]⟩] 37)
    have K15 := Bk.new u6 #[.bool false, .string ⟨#[]⟩] 37
    replace HV := HV.alloc HV.size (.cells #[.bool false, .string ⟨#[]⟩] 37)
    go_wp2_with fail
    refine (iawake_any _).mono ?_
    rintro e ua ⟨rfl, hb⟩
    replace K0 := K0.below hb
    replace K1 := K1.below hb
    replace K5 := K5.below hb
    replace K7 := K7.below hb
    replace K9 := K9.below hb
    replace K11 := K11.below hb
    replace K13 := K13.below hb
    replace K15 := K15.below hb
    replace HV := HV.trans (hb.mono HV.size)
    clear hb a0 a1 a2 a3 l0 l1
    have x0 : ua.cell? ⟨u1.heap.size, 0, none⟩ = some (.bool b1) := K5.cell 0
    have y0 : ua.cell? ⟨u1.heap.size, 1, none⟩ = some (.string t1) := K5.cell 1
    have x1 : ua.cell? ⟨u2.heap.size, 0, none⟩ = some (.bool b1) := K7.cell 0
    have y1 : ua.cell? ⟨u2.heap.size, 1, none⟩ = some (.string t1) := K7.cell 1
    have x2 : ua.cell? ⟨u3.heap.size, 0, none⟩ = some (.bool b2) := K9.cell 0
    have y2 : ua.cell? ⟨u3.heap.size, 1, none⟩ = some (.string t2) := K9.cell 1
    have x3 : ua.cell? ⟨u4.heap.size, 0, none⟩ = some (.bool b2) := K11.cell 0
    have y3 : ua.cell? ⟨u4.heap.size, 1, none⟩ = some (.string t2) := K11.cell 1
    have x4 : ua.cell? ⟨u5.heap.size, 0, none⟩ = some (.bool false) := K13.cell 0
    have y4 : ua.cell? ⟨u5.heap.size, 1, none⟩ = some (.string ⟨#[]⟩) := K13.cell 1
    have x5 : ua.cell? ⟨u6.heap.size, 0, none⟩ = some (.bool false) := K15.cell 0
    have y5 : ua.cell? ⟨u6.heap.size, 1, none⟩ = some (.string ⟨#[]⟩) := K15.cell 1
    go_wp2
    go_ret
    exact ⟨rfl, HV⟩
  · have z2 : (e2 == 0) = false := by rw [beq_eq_false_iff_ne]; exact n2
    clear n2
    go_enter Try.func6, Try.ntmps6
    go_wp2_with fail
    refine HF.out.mono ?_
    rintro e w' ⟨rfl, rfl⟩
    go_wp2_with fail
    refine (H0.out _).mono ?_
    rintro e u1 ⟨rfl, hb⟩
    replace K0 := K0.below hb
    replace K1 := K1.below hb
    replace HV := HV.trans (hb.mono HV.size)
    clear hb
    have a0 : u1.cell? ⟨w.heap.size, 0, none⟩ = some (.bool p) := K0.cell 0
    have a1 : u1.cell? ⟨w.heap.size, 1, none⟩ = some (.string s) := K0.cell 1
    have a2 : u1.cell? ⟨w.heap.size + 1, 0, none⟩ = some (.bool q) := K1.cell 0
    have a3 : u1.cell? ⟨w.heap.size + 1, 1, none⟩ = some (.string t) := K1.cell 1
    have l0 : w.heap.size < u1.heap.size := K0.lt
    have l1 : w.heap.size + 1 < u1.heap.size := K1.lt
    replace K0 := K0.alloc (.cells #[.bool b1, .string t1] 37)
    replace K1 := K1.alloc (.cells #[.bool b1, .string t1] 37)
    have K5 := Bk.new u1 #[.bool b1, .string t1] 37
    replace HV := HV.alloc HV.size (.cells #[.bool b1, .string t1] 37)
    go_wp2_with fail
    refine (H1.out _).mono ?_
    rintro e u2 ⟨rfl, hb⟩
    replace K0 := K0.below hb
    replace K1 := K1.below hb
    replace K5 := K5.below hb
    replace HV := HV.trans (hb.mono HV.size)
    clear hb
    clear a0 a1 a2 a3 l0 l1
    have a0 : u2.cell? ⟨w.heap.size, 0, none⟩ = some (.bool p) := K0.cell 0
    have a1 : u2.cell? ⟨w.heap.size, 1, none⟩ = some (.string s) := K0.cell 1
    have a2 : u2.cell? ⟨w.heap.size + 1, 0, none⟩ = some (.bool q) := K1.cell 0
    have a3 : u2.cell? ⟨w.heap.size + 1, 1, none⟩ = some (.string t) := K1.cell 1
    have l0 : w.heap.size < u2.heap.size := K0.lt
    have l1 : w.heap.size + 1 < u2.heap.size := K1.lt
    replace K0 := K0.alloc (.cells #[.bool b1, .string t1] 37)
    replace K1 := K1.alloc (.cells #[.bool b1, .string t1] 37)
    replace K5 := K5.alloc (.cells #[.bool b1, .string t1] 37)
    have K7 := Bk.new u2 #[.bool b1, .string t1] 37
    replace HV := HV.alloc HV.size (.cells #[.bool b1, .string t1] 37)
    go_wp2_with fail
    refine (H2.out _).mono ?_
    rintro e u3 ⟨rfl, hb⟩
    replace K0 := K0.below hb
    replace K1 := K1.below hb
    replace K5 := K5.below hb
    replace K7 := K7.below hb
    replace HV := HV.trans (hb.mono HV.size)
    clear hb
    clear a0 a1 a2 a3 l0 l1
    have a0 : u3.cell? ⟨w.heap.size, 0, none⟩ = some (.bool p) := K0.cell 0
    have a1 : u3.cell? ⟨w.heap.size, 1, none⟩ = some (.string s) := K0.cell 1
    have a2 : u3.cell? ⟨w.heap.size + 1, 0, none⟩ = some (.bool q) := K1.cell 0
    have a3 : u3.cell? ⟨w.heap.size + 1, 1, none⟩ = some (.string t) := K1.cell 1
    have l0 : w.heap.size < u3.heap.size := K0.lt
    have l1 : w.heap.size + 1 < u3.heap.size := K1.lt
    replace K0 := K0.alloc (.cells #[.bool false, .string ⟨#[]⟩] 37)
    replace K1 := K1.alloc (.cells #[.bool false, .string ⟨#[]⟩] 37)
    replace K5 := K5.alloc (.cells #[.bool false, .string ⟨#[]⟩] 37)
    replace K7 := K7.alloc (.cells #[.bool false, .string ⟨#[]⟩] 37)
    have K9 := Bk.new u3 #[.bool false, .string ⟨#[]⟩] 37
    replace HV := HV.alloc HV.size (.cells #[.bool false, .string ⟨#[]⟩] 37)
    go_wp2_with fail
    refine (H3.out _).mono ?_
    rintro e u4 ⟨rfl, hb⟩
    replace K0 := K0.below hb
    replace K1 := K1.below hb
    replace K5 := K5.below hb
    replace K7 := K7.below hb
    replace K9 := K9.below hb
    replace HV := HV.trans (hb.mono HV.size)
    clear hb
    clear a0 a1 a2 a3 l0 l1
    have a0 : u4.cell? ⟨w.heap.size, 0, none⟩ = some (.bool p) := K0.cell 0
    have a1 : u4.cell? ⟨w.heap.size, 1, none⟩ = some (.string s) := K0.cell 1
    have a2 : u4.cell? ⟨w.heap.size + 1, 0, none⟩ = some (.bool q) := K1.cell 0
    have a3 : u4.cell? ⟨w.heap.size + 1, 1, none⟩ = some (.string t) := K1.cell 1
    have l0 : w.heap.size < u4.heap.size := K0.lt
    have l1 : w.heap.size + 1 < u4.heap.size := K1.lt
    replace K0 := K0.alloc (.cells #[.bool false, .string ⟨#[]⟩] 37)
    replace K1 := K1.alloc (.cells #[.bool false, .string ⟨#[]⟩] 37)
    replace K5 := K5.alloc (.cells #[.bool false, .string ⟨#[]⟩] 37)
    replace K7 := K7.alloc (.cells #[.bool false, .string ⟨#[]⟩] 37)
    replace K9 := K9.alloc (.cells #[.bool false, .string ⟨#[]⟩] 37)
    have K11 := Bk.new u4 #[.bool false, .string ⟨#[]⟩] 37
    replace HV := HV.alloc HV.size (.cells #[.bool false, .string ⟨#[]⟩] 37)
    go_wp2_with fail
    refine (H4.out _).mono ?_
    rintro e u5 ⟨rfl, hb⟩
    replace K0 := K0.below hb
    replace K1 := K1.below hb
    replace K5 := K5.below hb
    replace K7 := K7.below hb
    replace K9 := K9.below hb
    replace K11 := K11.below hb
    replace HV := HV.trans (hb.mono HV.size)
    clear hb
    clear a0 a1 a2 a3 l0 l1
    have a0 : u5.cell? ⟨w.heap.size, 0, none⟩ = some (.bool p) := K0.cell 0
    have a1 : u5.cell? ⟨w.heap.size, 1, none⟩ = some (.string s) := K0.cell 1
    have a2 : u5.cell? ⟨w.heap.size + 1, 0, none⟩ = some (.bool q) := K1.cell 0
    have a3 : u5.cell? ⟨w.heap.size + 1, 1, none⟩ = some (.string t) := K1.cell 1
    have l0 : w.heap.size < u5.heap.size := K0.lt
    have l1 : w.heap.size + 1 < u5.heap.size := K1.lt
    replace K0 := K0.alloc (.cells #[.bool b3, .string t3] 37)
    replace K1 := K1.alloc (.cells #[.bool b3, .string t3] 37)
    replace K5 := K5.alloc (.cells #[.bool b3, .string t3] 37)
    replace K7 := K7.alloc (.cells #[.bool b3, .string t3] 37)
    replace K9 := K9.alloc (.cells #[.bool b3, .string t3] 37)
    replace K11 := K11.alloc (.cells #[.bool b3, .string t3] 37)
    have K13 := Bk.new u5 #[.bool b3, .string t3] 37
    replace HV := HV.alloc HV.size (.cells #[.bool b3, .string t3] 37)
    go_wp2_with fail
    refine (H5.out _).mono ?_
    rintro e u6 ⟨rfl, hb⟩
    replace K0 := K0.below hb
    replace K1 := K1.below hb
    replace K5 := K5.below hb
    replace K7 := K7.below hb
    replace K9 := K9.below hb
    replace K11 := K11.below hb
    replace K13 := K13.below hb
    replace HV := HV.trans (hb.mono HV.size)
    clear hb
    clear a0 a1 a2 a3 l0 l1
    have a0 : u6.cell? ⟨w.heap.size, 0, none⟩ = some (.bool p) := K0.cell 0
    have a1 : u6.cell? ⟨w.heap.size, 1, none⟩ = some (.string s) := K0.cell 1
    have a2 : u6.cell? ⟨w.heap.size + 1, 0, none⟩ = some (.bool q) := K1.cell 0
    have a3 : u6.cell? ⟨w.heap.size + 1, 1, none⟩ = some (.string t) := K1.cell 1
    have l0 : w.heap.size < u6.heap.size := K0.lt
    have l1 : w.heap.size + 1 < u6.heap.size := K1.lt
    replace K0 := K0.alloc (.cells #[.bool b3, .string t3] 37)
    replace K1 := K1.alloc (.cells #[.bool b3, .string t3] 37)
    replace K5 := K5.alloc (.cells #[.bool b3, .string t3] 37)
    replace K7 := K7.alloc (.cells #[.bool b3, .string t3] 37)
    replace K9 := K9.alloc (.cells #[.bool b3, .string t3] 37)
    replace K11 := K11.alloc (.cells #[.bool b3, .string t3] 37)
    replace K13 := K13.alloc (.cells #[.bool b3, .string t3] 37)
    have K15 := Bk.new u6 #[.bool b3, .string t3] 37
    replace HV := HV.alloc HV.size (.cells #[.bool b3, .string t3] 37)
    go_wp2_with fail
    refine (iawake_any _).mono ?_
    rintro e ua ⟨rfl, hb⟩
    replace K0 := K0.below hb
    replace K1 := K1.below hb
    replace K5 := K5.below hb
    replace K7 := K7.below hb
    replace K9 := K9.below hb
    replace K11 := K11.below hb
    replace K13 := K13.below hb
    replace K15 := K15.below hb
    replace HV := HV.trans (hb.mono HV.size)
    clear hb a0 a1 a2 a3 l0 l1
    have x0 : ua.cell? ⟨u1.heap.size, 0, none⟩ = some (.bool b1) := K5.cell 0
    have y0 : ua.cell? ⟨u1.heap.size, 1, none⟩ = some (.string t1) := K5.cell 1
    have x1 : ua.cell? ⟨u2.heap.size, 0, none⟩ = some (.bool b1) := K7.cell 0
    have y1 : ua.cell? ⟨u2.heap.size, 1, none⟩ = some (.string t1) := K7.cell 1
    have x2 : ua.cell? ⟨u3.heap.size, 0, none⟩ = some (.bool false) := K9.cell 0
    have y2 : ua.cell? ⟨u3.heap.size, 1, none⟩ = some (.string ⟨#[]⟩) := K9.cell 1
    have x3 : ua.cell? ⟨u4.heap.size, 0, none⟩ = some (.bool false) := K11.cell 0
    have y3 : ua.cell? ⟨u4.heap.size, 1, none⟩ = some (.string ⟨#[]⟩) := K11.cell 1
    have x4 : ua.cell? ⟨u5.heap.size, 0, none⟩ = some (.bool b3) := K13.cell 0
    have y4 : ua.cell? ⟨u5.heap.size, 1, none⟩ = some (.string t3) := K13.cell 1
    have x5 : ua.cell? ⟨u6.heap.size, 0, none⟩ = some (.bool b3) := K15.cell 0
    have y5 : ua.cell? ⟨u6.heap.size, 1, none⟩ = some (.string t3) := K15.cell 1
    go_wp2
    go_ret
    exact ⟨rfl, HV⟩
  · have z2 : (e2 == 0) = false := by rw [beq_eq_false_iff_ne]; exact n2
    clear n2
    have z3 : (e3 == 0) = false := by rw [beq_eq_false_iff_ne]; exact n3
    clear n3
    go_enter Try.func6, Try.ntmps6
    go_wp2_with fail
    refine HF.out.mono ?_
    rintro e w' ⟨rfl, rfl⟩
    go_wp2_with fail
    refine (H0.out _).mono ?_
    rintro e u1 ⟨rfl, hb⟩
    replace K0 := K0.below hb
    replace K1 := K1.below hb
    replace HV := HV.trans (hb.mono HV.size)
    clear hb
    have a0 : u1.cell? ⟨w.heap.size, 0, none⟩ = some (.bool p) := K0.cell 0
    have a1 : u1.cell? ⟨w.heap.size, 1, none⟩ = some (.string s) := K0.cell 1
    have a2 : u1.cell? ⟨w.heap.size + 1, 0, none⟩ = some (.bool q) := K1.cell 0
    have a3 : u1.cell? ⟨w.heap.size + 1, 1, none⟩ = some (.string t) := K1.cell 1
    have l0 : w.heap.size < u1.heap.size := K0.lt
    have l1 : w.heap.size + 1 < u1.heap.size := K1.lt
    replace K0 := K0.alloc (.cells #[.bool b1, .string t1] 37)
    replace K1 := K1.alloc (.cells #[.bool b1, .string t1] 37)
    have K5 := Bk.new u1 #[.bool b1, .string t1] 37
    replace HV := HV.alloc HV.size (.cells #[.bool b1, .string t1] 37)
    go_wp2_with fail
    refine (H1.out _).mono ?_
    rintro e u2 ⟨rfl, hb⟩
    replace K0 := K0.below hb
    replace K1 := K1.below hb
    replace K5 := K5.below hb
    replace HV := HV.trans (hb.mono HV.size)
    clear hb
    clear a0 a1 a2 a3 l0 l1
    have a0 : u2.cell? ⟨w.heap.size, 0, none⟩ = some (.bool p) := K0.cell 0
    have a1 : u2.cell? ⟨w.heap.size, 1, none⟩ = some (.string s) := K0.cell 1
    have a2 : u2.cell? ⟨w.heap.size + 1, 0, none⟩ = some (.bool q) := K1.cell 0
    have a3 : u2.cell? ⟨w.heap.size + 1, 1, none⟩ = some (.string t) := K1.cell 1
    have l0 : w.heap.size < u2.heap.size := K0.lt
    have l1 : w.heap.size + 1 < u2.heap.size := K1.lt
    replace K0 := K0.alloc (.cells #[.bool b1, .string t1] 37)
    replace K1 := K1.alloc (.cells #[.bool b1, .string t1] 37)
    replace K5 := K5.alloc (.cells #[.bool b1, .string t1] 37)
    have K7 := Bk.new u2 #[.bool b1, .string t1] 37
    replace HV := HV.alloc HV.size (.cells #[.bool b1, .string t1] 37)
    go_wp2_with fail
    refine (H2.out _).mono ?_
    rintro e u3 ⟨rfl, hb⟩
    replace K0 := K0.below hb
    replace K1 := K1.below hb
    replace K5 := K5.below hb
    replace K7 := K7.below hb
    replace HV := HV.trans (hb.mono HV.size)
    clear hb
    clear a0 a1 a2 a3 l0 l1
    have a0 : u3.cell? ⟨w.heap.size, 0, none⟩ = some (.bool p) := K0.cell 0
    have a1 : u3.cell? ⟨w.heap.size, 1, none⟩ = some (.string s) := K0.cell 1
    have a2 : u3.cell? ⟨w.heap.size + 1, 0, none⟩ = some (.bool q) := K1.cell 0
    have a3 : u3.cell? ⟨w.heap.size + 1, 1, none⟩ = some (.string t) := K1.cell 1
    have l0 : w.heap.size < u3.heap.size := K0.lt
    have l1 : w.heap.size + 1 < u3.heap.size := K1.lt
    replace K0 := K0.alloc (.cells #[.bool false, .string ⟨#[]⟩] 37)
    replace K1 := K1.alloc (.cells #[.bool false, .string ⟨#[]⟩] 37)
    replace K5 := K5.alloc (.cells #[.bool false, .string ⟨#[]⟩] 37)
    replace K7 := K7.alloc (.cells #[.bool false, .string ⟨#[]⟩] 37)
    have K9 := Bk.new u3 #[.bool false, .string ⟨#[]⟩] 37
    replace HV := HV.alloc HV.size (.cells #[.bool false, .string ⟨#[]⟩] 37)
    go_wp2_with fail
    refine (H3.out _).mono ?_
    rintro e u4 ⟨rfl, hb⟩
    replace K0 := K0.below hb
    replace K1 := K1.below hb
    replace K5 := K5.below hb
    replace K7 := K7.below hb
    replace K9 := K9.below hb
    replace HV := HV.trans (hb.mono HV.size)
    clear hb
    clear a0 a1 a2 a3 l0 l1
    have a0 : u4.cell? ⟨w.heap.size, 0, none⟩ = some (.bool p) := K0.cell 0
    have a1 : u4.cell? ⟨w.heap.size, 1, none⟩ = some (.string s) := K0.cell 1
    have a2 : u4.cell? ⟨w.heap.size + 1, 0, none⟩ = some (.bool q) := K1.cell 0
    have a3 : u4.cell? ⟨w.heap.size + 1, 1, none⟩ = some (.string t) := K1.cell 1
    have l0 : w.heap.size < u4.heap.size := K0.lt
    have l1 : w.heap.size + 1 < u4.heap.size := K1.lt
    replace K0 := K0.alloc (.cells #[.bool false, .string ⟨#[]⟩] 37)
    replace K1 := K1.alloc (.cells #[.bool false, .string ⟨#[]⟩] 37)
    replace K5 := K5.alloc (.cells #[.bool false, .string ⟨#[]⟩] 37)
    replace K7 := K7.alloc (.cells #[.bool false, .string ⟨#[]⟩] 37)
    replace K9 := K9.alloc (.cells #[.bool false, .string ⟨#[]⟩] 37)
    have K11 := Bk.new u4 #[.bool false, .string ⟨#[]⟩] 37
    replace HV := HV.alloc HV.size (.cells #[.bool false, .string ⟨#[]⟩] 37)
    go_wp2_with fail
    refine (H4.out _).mono ?_
    rintro e u5 ⟨rfl, hb⟩
    replace K0 := K0.below hb
    replace K1 := K1.below hb
    replace K5 := K5.below hb
    replace K7 := K7.below hb
    replace K9 := K9.below hb
    replace K11 := K11.below hb
    replace HV := HV.trans (hb.mono HV.size)
    clear hb
    clear a0 a1 a2 a3 l0 l1
    have a0 : u5.cell? ⟨w.heap.size, 0, none⟩ = some (.bool p) := K0.cell 0
    have a1 : u5.cell? ⟨w.heap.size, 1, none⟩ = some (.string s) := K0.cell 1
    have a2 : u5.cell? ⟨w.heap.size + 1, 0, none⟩ = some (.bool q) := K1.cell 0
    have a3 : u5.cell? ⟨w.heap.size + 1, 1, none⟩ = some (.string t) := K1.cell 1
    have l0 : w.heap.size < u5.heap.size := K0.lt
    have l1 : w.heap.size + 1 < u5.heap.size := K1.lt
    replace K0 := K0.alloc (.cells #[.bool false, .string ⟨#[]⟩] 37)
    replace K1 := K1.alloc (.cells #[.bool false, .string ⟨#[]⟩] 37)
    replace K5 := K5.alloc (.cells #[.bool false, .string ⟨#[]⟩] 37)
    replace K7 := K7.alloc (.cells #[.bool false, .string ⟨#[]⟩] 37)
    replace K9 := K9.alloc (.cells #[.bool false, .string ⟨#[]⟩] 37)
    replace K11 := K11.alloc (.cells #[.bool false, .string ⟨#[]⟩] 37)
    have K13 := Bk.new u5 #[.bool false, .string ⟨#[]⟩] 37
    replace HV := HV.alloc HV.size (.cells #[.bool false, .string ⟨#[]⟩] 37)
    go_wp2_with fail
    refine (H5.out _).mono ?_
    rintro e u6 ⟨rfl, hb⟩
    replace K0 := K0.below hb
    replace K1 := K1.below hb
    replace K5 := K5.below hb
    replace K7 := K7.below hb
    replace K9 := K9.below hb
    replace K11 := K11.below hb
    replace K13 := K13.below hb
    replace HV := HV.trans (hb.mono HV.size)
    clear hb
    clear a0 a1 a2 a3 l0 l1
    have a0 : u6.cell? ⟨w.heap.size, 0, none⟩ = some (.bool p) := K0.cell 0
    have a1 : u6.cell? ⟨w.heap.size, 1, none⟩ = some (.string s) := K0.cell 1
    have a2 : u6.cell? ⟨w.heap.size + 1, 0, none⟩ = some (.bool q) := K1.cell 0
    have a3 : u6.cell? ⟨w.heap.size + 1, 1, none⟩ = some (.string t) := K1.cell 1
    have l0 : w.heap.size < u6.heap.size := K0.lt
    have l1 : w.heap.size + 1 < u6.heap.size := K1.lt
    replace K0 := K0.alloc (.cells #[.bool false, .string ⟨#[]⟩] 37)
    replace K1 := K1.alloc (.cells #[.bool false, .string ⟨#[]⟩] 37)
    replace K5 := K5.alloc (.cells #[.bool false, .string ⟨#[]⟩] 37)
    replace K7 := K7.alloc (.cells #[.bool false, .string ⟨#[]⟩] 37)
    replace K9 := K9.alloc (.cells #[.bool false, .string ⟨#[]⟩] 37)
    replace K11 := K11.alloc (.cells #[.bool false, .string ⟨#[]⟩] 37)
    replace K13 := K13.alloc (.cells #[.bool false, .string ⟨#[]⟩] 37)
    have K15 := Bk.new u6 #[.bool false, .string ⟨#[]⟩] 37
    replace HV := HV.alloc HV.size (.cells #[.bool false, .string ⟨#[]⟩] 37)
    go_wp2_with fail
    refine (iawake_any _).mono ?_
    rintro e ua ⟨rfl, hb⟩
    replace K0 := K0.below hb
    replace K1 := K1.below hb
    replace K5 := K5.below hb
    replace K7 := K7.below hb
    replace K9 := K9.below hb
    replace K11 := K11.below hb
    replace K13 := K13.below hb
    replace K15 := K15.below hb
    replace HV := HV.trans (hb.mono HV.size)
    clear hb a0 a1 a2 a3 l0 l1
    have x0 : ua.cell? ⟨u1.heap.size, 0, none⟩ = some (.bool b1) := K5.cell 0
    have y0 : ua.cell? ⟨u1.heap.size, 1, none⟩ = some (.string t1) := K5.cell 1
    have x1 : ua.cell? ⟨u2.heap.size, 0, none⟩ = some (.bool b1) := K7.cell 0
    have y1 : ua.cell? ⟨u2.heap.size, 1, none⟩ = some (.string t1) := K7.cell 1
    have x2 : ua.cell? ⟨u3.heap.size, 0, none⟩ = some (.bool false) := K9.cell 0
    have y2 : ua.cell? ⟨u3.heap.size, 1, none⟩ = some (.string ⟨#[]⟩) := K9.cell 1
    have x3 : ua.cell? ⟨u4.heap.size, 0, none⟩ = some (.bool false) := K11.cell 0
    have y3 : ua.cell? ⟨u4.heap.size, 1, none⟩ = some (.string ⟨#[]⟩) := K11.cell 1
    have x4 : ua.cell? ⟨u5.heap.size, 0, none⟩ = some (.bool false) := K13.cell 0
    have y4 : ua.cell? ⟨u5.heap.size, 1, none⟩ = some (.string ⟨#[]⟩) := K13.cell 1
    have x5 : ua.cell? ⟨u6.heap.size, 0, none⟩ = some (.bool false) := K15.cell 0
    have y5 : ua.cell? ⟨u6.heap.size, 1, none⟩ = some (.string ⟨#[]⟩) := K15.cell 1
    go_wp2
    go_ret
    exact ⟨rfl, HV⟩
  · have z1 : (e1 == 0) = false := by rw [beq_eq_false_iff_ne]; exact n1
    clear n1
    go_enter Try.func6, Try.ntmps6
    go_wp2_with fail
    refine HF.out.mono ?_
    rintro e w' ⟨rfl, rfl⟩
    go_wp2_with fail
    refine (H0.out _).mono ?_
    rintro e u1 ⟨rfl, hb⟩
    replace K0 := K0.below hb
    replace K1 := K1.below hb
    replace HV := HV.trans (hb.mono HV.size)
    clear hb
    have a0 : u1.cell? ⟨w.heap.size, 0, none⟩ = some (.bool p) := K0.cell 0
    have a1 : u1.cell? ⟨w.heap.size, 1, none⟩ = some (.string s) := K0.cell 1
    have a2 : u1.cell? ⟨w.heap.size + 1, 0, none⟩ = some (.bool q) := K1.cell 0
    have a3 : u1.cell? ⟨w.heap.size + 1, 1, none⟩ = some (.string t) := K1.cell 1
    have l0 : w.heap.size < u1.heap.size := K0.lt
    have l1 : w.heap.size + 1 < u1.heap.size := K1.lt
    replace K0 := K0.alloc (.cells #[.bool false, .string ⟨#[]⟩] 37)
    replace K1 := K1.alloc (.cells #[.bool false, .string ⟨#[]⟩] 37)
    have K5 := Bk.new u1 #[.bool false, .string ⟨#[]⟩] 37
    replace HV := HV.alloc HV.size (.cells #[.bool false, .string ⟨#[]⟩] 37)
    go_wp2_with fail
    refine (H1.out _).mono ?_
    rintro e u2 ⟨rfl, hb⟩
    replace K0 := K0.below hb
    replace K1 := K1.below hb
    replace K5 := K5.below hb
    replace HV := HV.trans (hb.mono HV.size)
    clear hb
    clear a0 a1 a2 a3 l0 l1
    have a0 : u2.cell? ⟨w.heap.size, 0, none⟩ = some (.bool p) := K0.cell 0
    have a1 : u2.cell? ⟨w.heap.size, 1, none⟩ = some (.string s) := K0.cell 1
    have a2 : u2.cell? ⟨w.heap.size + 1, 0, none⟩ = some (.bool q) := K1.cell 0
    have a3 : u2.cell? ⟨w.heap.size + 1, 1, none⟩ = some (.string t) := K1.cell 1
    have l0 : w.heap.size < u2.heap.size := K0.lt
    have l1 : w.heap.size + 1 < u2.heap.size := K1.lt
    replace K0 := K0.alloc (.cells #[.bool false, .string ⟨#[]⟩] 37)
    replace K1 := K1.alloc (.cells #[.bool false, .string ⟨#[]⟩] 37)
    replace K5 := K5.alloc (.cells #[.bool false, .string ⟨#[]⟩] 37)
    have K7 := Bk.new u2 #[.bool false, .string ⟨#[]⟩] 37
    replace HV := HV.alloc HV.size (.cells #[.bool false, .string ⟨#[]⟩] 37)
    go_wp2_with fail
    refine (H2.out _).mono ?_
    rintro e u3 ⟨rfl, hb⟩
    replace K0 := K0.below hb
    replace K1 := K1.below hb
    replace K5 := K5.below hb
    replace K7 := K7.below hb
    replace HV := HV.trans (hb.mono HV.size)
    clear hb
    clear a0 a1 a2 a3 l0 l1
    have a0 : u3.cell? ⟨w.heap.size, 0, none⟩ = some (.bool p) := K0.cell 0
    have a1 : u3.cell? ⟨w.heap.size, 1, none⟩ = some (.string s) := K0.cell 1
    have a2 : u3.cell? ⟨w.heap.size + 1, 0, none⟩ = some (.bool q) := K1.cell 0
    have a3 : u3.cell? ⟨w.heap.size + 1, 1, none⟩ = some (.string t) := K1.cell 1
    have l0 : w.heap.size < u3.heap.size := K0.lt
    have l1 : w.heap.size + 1 < u3.heap.size := K1.lt
    replace K0 := K0.alloc (.cells #[.bool b2, .string t2] 37)
    replace K1 := K1.alloc (.cells #[.bool b2, .string t2] 37)
    replace K5 := K5.alloc (.cells #[.bool b2, .string t2] 37)
    replace K7 := K7.alloc (.cells #[.bool b2, .string t2] 37)
    have K9 := Bk.new u3 #[.bool b2, .string t2] 37
    replace HV := HV.alloc HV.size (.cells #[.bool b2, .string t2] 37)
    go_wp2_with fail
    refine (H3.out _).mono ?_
    rintro e u4 ⟨rfl, hb⟩
    replace K0 := K0.below hb
    replace K1 := K1.below hb
    replace K5 := K5.below hb
    replace K7 := K7.below hb
    replace K9 := K9.below hb
    replace HV := HV.trans (hb.mono HV.size)
    clear hb
    clear a0 a1 a2 a3 l0 l1
    have a0 : u4.cell? ⟨w.heap.size, 0, none⟩ = some (.bool p) := K0.cell 0
    have a1 : u4.cell? ⟨w.heap.size, 1, none⟩ = some (.string s) := K0.cell 1
    have a2 : u4.cell? ⟨w.heap.size + 1, 0, none⟩ = some (.bool q) := K1.cell 0
    have a3 : u4.cell? ⟨w.heap.size + 1, 1, none⟩ = some (.string t) := K1.cell 1
    have l0 : w.heap.size < u4.heap.size := K0.lt
    have l1 : w.heap.size + 1 < u4.heap.size := K1.lt
    replace K0 := K0.alloc (.cells #[.bool b2, .string t2] 37)
    replace K1 := K1.alloc (.cells #[.bool b2, .string t2] 37)
    replace K5 := K5.alloc (.cells #[.bool b2, .string t2] 37)
    replace K7 := K7.alloc (.cells #[.bool b2, .string t2] 37)
    replace K9 := K9.alloc (.cells #[.bool b2, .string t2] 37)
    have K11 := Bk.new u4 #[.bool b2, .string t2] 37
    replace HV := HV.alloc HV.size (.cells #[.bool b2, .string t2] 37)
    go_wp2_with fail
    refine (H4.out _).mono ?_
    rintro e u5 ⟨rfl, hb⟩
    replace K0 := K0.below hb
    replace K1 := K1.below hb
    replace K5 := K5.below hb
    replace K7 := K7.below hb
    replace K9 := K9.below hb
    replace K11 := K11.below hb
    replace HV := HV.trans (hb.mono HV.size)
    clear hb
    clear a0 a1 a2 a3 l0 l1
    have a0 : u5.cell? ⟨w.heap.size, 0, none⟩ = some (.bool p) := K0.cell 0
    have a1 : u5.cell? ⟨w.heap.size, 1, none⟩ = some (.string s) := K0.cell 1
    have a2 : u5.cell? ⟨w.heap.size + 1, 0, none⟩ = some (.bool q) := K1.cell 0
    have a3 : u5.cell? ⟨w.heap.size + 1, 1, none⟩ = some (.string t) := K1.cell 1
    have l0 : w.heap.size < u5.heap.size := K0.lt
    have l1 : w.heap.size + 1 < u5.heap.size := K1.lt
    replace K0 := K0.alloc (.cells #[.bool b3, .string t3] 37)
    replace K1 := K1.alloc (.cells #[.bool b3, .string t3] 37)
    replace K5 := K5.alloc (.cells #[.bool b3, .string t3] 37)
    replace K7 := K7.alloc (.cells #[.bool b3, .string t3] 37)
    replace K9 := K9.alloc (.cells #[.bool b3, .string t3] 37)
    replace K11 := K11.alloc (.cells #[.bool b3, .string t3] 37)
    have K13 := Bk.new u5 #[.bool b3, .string t3] 37
    replace HV := HV.alloc HV.size (.cells #[.bool b3, .string t3] 37)
    go_wp2_with fail
    refine (H5.out _).mono ?_
    rintro e u6 ⟨rfl, hb⟩
    replace K0 := K0.below hb
    replace K1 := K1.below hb
    replace K5 := K5.below hb
    replace K7 := K7.below hb
    replace K9 := K9.below hb
    replace K11 := K11.below hb
    replace K13 := K13.below hb
    replace HV := HV.trans (hb.mono HV.size)
    clear hb
    clear a0 a1 a2 a3 l0 l1
    have a0 : u6.cell? ⟨w.heap.size, 0, none⟩ = some (.bool p) := K0.cell 0
    have a1 : u6.cell? ⟨w.heap.size, 1, none⟩ = some (.string s) := K0.cell 1
    have a2 : u6.cell? ⟨w.heap.size + 1, 0, none⟩ = some (.bool q) := K1.cell 0
    have a3 : u6.cell? ⟨w.heap.size + 1, 1, none⟩ = some (.string t) := K1.cell 1
    have l0 : w.heap.size < u6.heap.size := K0.lt
    have l1 : w.heap.size + 1 < u6.heap.size := K1.lt
    replace K0 := K0.alloc (.cells #[.bool b3, .string t3] 37)
    replace K1 := K1.alloc (.cells #[.bool b3, .string t3] 37)
    replace K5 := K5.alloc (.cells #[.bool b3, .string t3] 37)
    replace K7 := K7.alloc (.cells #[.bool b3, .string t3] 37)
    replace K9 := K9.alloc (.cells #[.bool b3, .string t3] 37)
    replace K11 := K11.alloc (.cells #[.bool b3, .string t3] 37)
    replace K13 := K13.alloc (.cells #[.bool b3, .string t3] 37)
    have K15 := Bk.new u6 #[.bool b3, .string t3] 37
    replace HV := HV.alloc HV.size (.cells #[.bool b3, .string t3] 37)
    go_wp2_with fail
    refine (iawake_any _).mono ?_
    rintro e ua ⟨rfl, hb⟩
    replace K0 := K0.below hb
    replace K1 := K1.below hb
    replace K5 := K5.below hb
    replace K7 := K7.below hb
    replace K9 := K9.below hb
    replace K11 := K11.below hb
    replace K13 := K13.below hb
    replace K15 := K15.below hb
    replace HV := HV.trans (hb.mono HV.size)
    clear hb a0 a1 a2 a3 l0 l1
    have x0 : ua.cell? ⟨u1.heap.size, 0, none⟩ = some (.bool false) := K5.cell 0
    have y0 : ua.cell? ⟨u1.heap.size, 1, none⟩ = some (.string ⟨#[]⟩) := K5.cell 1
    have x1 : ua.cell? ⟨u2.heap.size, 0, none⟩ = some (.bool false) := K7.cell 0
    have y1 : ua.cell? ⟨u2.heap.size, 1, none⟩ = some (.string ⟨#[]⟩) := K7.cell 1
    have x2 : ua.cell? ⟨u3.heap.size, 0, none⟩ = some (.bool b2) := K9.cell 0
    have y2 : ua.cell? ⟨u3.heap.size, 1, none⟩ = some (.string t2) := K9.cell 1
    have x3 : ua.cell? ⟨u4.heap.size, 0, none⟩ = some (.bool b2) := K11.cell 0
    have y3 : ua.cell? ⟨u4.heap.size, 1, none⟩ = some (.string t2) := K11.cell 1
    have x4 : ua.cell? ⟨u5.heap.size, 0, none⟩ = some (.bool b3) := K13.cell 0
    have y4 : ua.cell? ⟨u5.heap.size, 1, none⟩ = some (.string t3) := K13.cell 1
    have x5 : ua.cell? ⟨u6.heap.size, 0, none⟩ = some (.bool b3) := K15.cell 0
    have y5 : ua.cell? ⟨u6.heap.size, 1, none⟩ = some (.string t3) := K15.cell 1
    go_wp2
    go_ret
    exact ⟨rfl, HV⟩
  · have z1 : (e1 == 0) = false := by rw [beq_eq_false_iff_ne]; exact n1
    clear n1
    have z3 : (e3 == 0) = false := by rw [beq_eq_false_iff_ne]; exact n3
    clear n3
    go_enter Try.func6, Try.ntmps6
    go_wp2_with fail
    refine HF.out.mono ?_
    rintro e w' ⟨rfl, rfl⟩
    go_wp2_with fail
    refine (H0.out _).mono ?_
    rintro e u1 ⟨rfl, hb⟩
    replace K0 := K0.below hb
    replace K1 := K1.below hb
    replace HV := HV.trans (hb.mono HV.size)
    clear hb
    have a0 : u1.cell? ⟨w.heap.size, 0, none⟩ = some (.bool p) := K0.cell 0
    have a1 : u1.cell? ⟨w.heap.size, 1, none⟩ = some (.string s) := K0.cell 1
    have a2 : u1.cell? ⟨w.heap.size + 1, 0, none⟩ = some (.bool q) := K1.cell 0
    have a3 : u1.cell? ⟨w.heap.size + 1, 1, none⟩ = some (.string t) := K1.cell 1
    have l0 : w.heap.size < u1.heap.size := K0.lt
    have l1 : w.heap.size + 1 < u1.heap.size := K1.lt
    replace K0 := K0.alloc (.cells #[.bool false, .string ⟨#[]⟩] 37)
    replace K1 := K1.alloc (.cells #[.bool false, .string ⟨#[]⟩] 37)
    have K5 := Bk.new u1 #[.bool false, .string ⟨#[]⟩] 37
    replace HV := HV.alloc HV.size (.cells #[.bool false, .string ⟨#[]⟩] 37)
    go_wp2_with fail
    refine (H1.out _).mono ?_
    rintro e u2 ⟨rfl, hb⟩
    replace K0 := K0.below hb
    replace K1 := K1.below hb
    replace K5 := K5.below hb
    replace HV := HV.trans (hb.mono HV.size)
    clear hb
    clear a0 a1 a2 a3 l0 l1
    have a0 : u2.cell? ⟨w.heap.size, 0, none⟩ = some (.bool p) := K0.cell 0
    have a1 : u2.cell? ⟨w.heap.size, 1, none⟩ = some (.string s) := K0.cell 1
    have a2 : u2.cell? ⟨w.heap.size + 1, 0, none⟩ = some (.bool q) := K1.cell 0
    have a3 : u2.cell? ⟨w.heap.size + 1, 1, none⟩ = some (.string t) := K1.cell 1
    have l0 : w.heap.size < u2.heap.size := K0.lt
    have l1 : w.heap.size + 1 < u2.heap.size := K1.lt
    replace K0 := K0.alloc (.cells #[.bool false, .string ⟨#[]⟩] 37)
    replace K1 := K1.alloc (.cells #[.bool false, .string ⟨#[]⟩] 37)
    replace K5 := K5.alloc (.cells #[.bool false, .string ⟨#[]⟩] 37)
    have K7 := Bk.new u2 #[.bool false, .string ⟨#[]⟩] 37
    replace HV := HV.alloc HV.size (.cells #[.bool false, .string ⟨#[]⟩] 37)
    go_wp2_with fail
    refine (H2.out _).mono ?_
    rintro e u3 ⟨rfl, hb⟩
    replace K0 := K0.below hb
    replace K1 := K1.below hb
    replace K5 := K5.below hb
    replace K7 := K7.below hb
    replace HV := HV.trans (hb.mono HV.size)
    clear hb
    clear a0 a1 a2 a3 l0 l1
    have a0 : u3.cell? ⟨w.heap.size, 0, none⟩ = some (.bool p) := K0.cell 0
    have a1 : u3.cell? ⟨w.heap.size, 1, none⟩ = some (.string s) := K0.cell 1
    have a2 : u3.cell? ⟨w.heap.size + 1, 0, none⟩ = some (.bool q) := K1.cell 0
    have a3 : u3.cell? ⟨w.heap.size + 1, 1, none⟩ = some (.string t) := K1.cell 1
    have l0 : w.heap.size < u3.heap.size := K0.lt
    have l1 : w.heap.size + 1 < u3.heap.size := K1.lt
    replace K0 := K0.alloc (.cells #[.bool b2, .string t2] 37)
    replace K1 := K1.alloc (.cells #[.bool b2, .string t2] 37)
    replace K5 := K5.alloc (.cells #[.bool b2, .string t2] 37)
    replace K7 := K7.alloc (.cells #[.bool b2, .string t2] 37)
    have K9 := Bk.new u3 #[.bool b2, .string t2] 37
    replace HV := HV.alloc HV.size (.cells #[.bool b2, .string t2] 37)
    go_wp2_with fail
    refine (H3.out _).mono ?_
    rintro e u4 ⟨rfl, hb⟩
    replace K0 := K0.below hb
    replace K1 := K1.below hb
    replace K5 := K5.below hb
    replace K7 := K7.below hb
    replace K9 := K9.below hb
    replace HV := HV.trans (hb.mono HV.size)
    clear hb
    clear a0 a1 a2 a3 l0 l1
    have a0 : u4.cell? ⟨w.heap.size, 0, none⟩ = some (.bool p) := K0.cell 0
    have a1 : u4.cell? ⟨w.heap.size, 1, none⟩ = some (.string s) := K0.cell 1
    have a2 : u4.cell? ⟨w.heap.size + 1, 0, none⟩ = some (.bool q) := K1.cell 0
    have a3 : u4.cell? ⟨w.heap.size + 1, 1, none⟩ = some (.string t) := K1.cell 1
    have l0 : w.heap.size < u4.heap.size := K0.lt
    have l1 : w.heap.size + 1 < u4.heap.size := K1.lt
    replace K0 := K0.alloc (.cells #[.bool b2, .string t2] 37)
    replace K1 := K1.alloc (.cells #[.bool b2, .string t2] 37)
    replace K5 := K5.alloc (.cells #[.bool b2, .string t2] 37)
    replace K7 := K7.alloc (.cells #[.bool b2, .string t2] 37)
    replace K9 := K9.alloc (.cells #[.bool b2, .string t2] 37)
    have K11 := Bk.new u4 #[.bool b2, .string t2] 37
    replace HV := HV.alloc HV.size (.cells #[.bool b2, .string t2] 37)
    go_wp2_with fail
    refine (H4.out _).mono ?_
    rintro e u5 ⟨rfl, hb⟩
    replace K0 := K0.below hb
    replace K1 := K1.below hb
    replace K5 := K5.below hb
    replace K7 := K7.below hb
    replace K9 := K9.below hb
    replace K11 := K11.below hb
    replace HV := HV.trans (hb.mono HV.size)
    clear hb
    clear a0 a1 a2 a3 l0 l1
    have a0 : u5.cell? ⟨w.heap.size, 0, none⟩ = some (.bool p) := K0.cell 0
    have a1 : u5.cell? ⟨w.heap.size, 1, none⟩ = some (.string s) := K0.cell 1
    have a2 : u5.cell? ⟨w.heap.size + 1, 0, none⟩ = some (.bool q) := K1.cell 0
    have a3 : u5.cell? ⟨w.heap.size + 1, 1, none⟩ = some (.string t) := K1.cell 1
    have l0 : w.heap.size < u5.heap.size := K0.lt
    have l1 : w.heap.size + 1 < u5.heap.size := K1.lt
    replace K0 := K0.alloc (.cells #[.bool false, .string ⟨#[]⟩] 37)
    replace K1 := K1.alloc (.cells #[.bool false, .string ⟨#[]⟩] 37)
    replace K5 := K5.alloc (.cells #[.bool false, .string ⟨#[]⟩] 37)
    replace K7 := K7.alloc (.cells #[.bool false, .string ⟨#[]⟩] 37)
    replace K9 := K9.alloc (.cells #[.bool false, .string ⟨#[]⟩] 37)
    replace K11 := K11.alloc (.cells #[.bool false, .string ⟨#[]⟩] 37)
    have K13 := Bk.new u5 #[.bool false, .string ⟨#[]⟩] 37
    replace HV := HV.alloc HV.size (.cells #[.bool false, .string ⟨#[]⟩] 37)
    go_wp2_with fail
    refine (H5.out _).mono ?_
    rintro e u6 ⟨rfl, hb⟩
    replace K0 := K0.below hb
    replace K1 := K1.below hb
    replace K5 := K5.below hb
    replace K7 := K7.below hb
    replace K9 := K9.below hb
    replace K11 := K11.below hb
    replace K13 := K13.below hb
    replace HV := HV.trans (hb.mono HV.size)
    clear hb
    clear a0 a1 a2 a3 l0 l1
    have a0 : u6.cell? ⟨w.heap.size, 0, none⟩ = some (.bool p) := K0.cell 0
    have a1 : u6.cell? ⟨w.heap.size, 1, none⟩ = some (.string s) := K0.cell 1
    have a2 : u6.cell? ⟨w.heap.size + 1, 0, none⟩ = some (.bool q) := K1.cell 0
    have a3 : u6.cell? ⟨w.heap.size + 1, 1, none⟩ = some (.string t) := K1.cell 1
    have l0 : w.heap.size < u6.heap.size := K0.lt
    have l1 : w.heap.size + 1 < u6.heap.size := K1.lt
    replace K0 := K0.alloc (.cells #[.bool false, .string ⟨#[]⟩] 37)
    replace K1 := K1.alloc (.cells #[.bool false, .string ⟨#[]⟩] 37)
    replace K5 := K5.alloc (.cells #[.bool false, .string ⟨#[]⟩] 37)
    replace K7 := K7.alloc (.cells #[.bool false, .string ⟨#[]⟩] 37)
    replace K9 := K9.alloc (.cells #[.bool false, .string ⟨#[]⟩] 37)
    replace K11 := K11.alloc (.cells #[.bool false, .string ⟨#[]⟩] 37)
    replace K13 := K13.alloc (.cells #[.bool false, .string ⟨#[]⟩] 37)
    have K15 := Bk.new u6 #[.bool false, .string ⟨#[]⟩] 37
    replace HV := HV.alloc HV.size (.cells #[.bool false, .string ⟨#[]⟩] 37)
    go_wp2_with fail
    refine (iawake_any _).mono ?_
    rintro e ua ⟨rfl, hb⟩
    replace K0 := K0.below hb
    replace K1 := K1.below hb
    replace K5 := K5.below hb
    replace K7 := K7.below hb
    replace K9 := K9.below hb
    replace K11 := K11.below hb
    replace K13 := K13.below hb
    replace K15 := K15.below hb
    replace HV := HV.trans (hb.mono HV.size)
    clear hb a0 a1 a2 a3 l0 l1
    have x0 : ua.cell? ⟨u1.heap.size, 0, none⟩ = some (.bool false) := K5.cell 0
    have y0 : ua.cell? ⟨u1.heap.size, 1, none⟩ = some (.string ⟨#[]⟩) := K5.cell 1
    have x1 : ua.cell? ⟨u2.heap.size, 0, none⟩ = some (.bool false) := K7.cell 0
    have y1 : ua.cell? ⟨u2.heap.size, 1, none⟩ = some (.string ⟨#[]⟩) := K7.cell 1
    have x2 : ua.cell? ⟨u3.heap.size, 0, none⟩ = some (.bool b2) := K9.cell 0
    have y2 : ua.cell? ⟨u3.heap.size, 1, none⟩ = some (.string t2) := K9.cell 1
    have x3 : ua.cell? ⟨u4.heap.size, 0, none⟩ = some (.bool b2) := K11.cell 0
    have y3 : ua.cell? ⟨u4.heap.size, 1, none⟩ = some (.string t2) := K11.cell 1
    have x4 : ua.cell? ⟨u5.heap.size, 0, none⟩ = some (.bool false) := K13.cell 0
    have y4 : ua.cell? ⟨u5.heap.size, 1, none⟩ = some (.string ⟨#[]⟩) := K13.cell 1
    have x5 : ua.cell? ⟨u6.heap.size, 0, none⟩ = some (.bool false) := K15.cell 0
    have y5 : ua.cell? ⟨u6.heap.size, 1, none⟩ = some (.string ⟨#[]⟩) := K15.cell 1
    go_wp2
    go_ret
    exact ⟨rfl, HV⟩
  · have z1 : (e1 == 0) = false := by rw [beq_eq_false_iff_ne]; exact n1
    clear n1
    have z2 : (e2 == 0) = false := by rw [beq_eq_false_iff_ne]; exact n2
    clear n2
    go_enter Try.func6, Try.ntmps6
    go_wp2_with fail
    refine HF.out.mono ?_
    rintro e w' ⟨rfl, rfl⟩
    go_wp2_with fail
    refine (H0.out _).mono ?_
    rintro e u1 ⟨rfl, hb⟩
    replace K0 := K0.below hb
    replace K1 := K1.below hb
    replace HV := HV.trans (hb.mono HV.size)
    clear hb
    have a0 : u1.cell? ⟨w.heap.size, 0, none⟩ = some (.bool p) := K0.cell 0
    have a1 : u1.cell? ⟨w.heap.size, 1, none⟩ = some (.string s) := K0.cell 1
    have a2 : u1.cell? ⟨w.heap.size + 1, 0, none⟩ = some (.bool q) := K1.cell 0
    have a3 : u1.cell? ⟨w.heap.size + 1, 1, none⟩ = some (.string t) := K1.cell 1
    have l0 : w.heap.size < u1.heap.size := K0.lt
    have l1 : w.heap.size + 1 < u1.heap.size := K1.lt
    replace K0 := K0.alloc (.cells #[.bool false, .string ⟨#[]⟩] 37)
    replace K1 := K1.alloc (.cells #[.bool false, .string ⟨#[]⟩] 37)
    have K5 := Bk.new u1 #[.bool false, .string ⟨#[]⟩] 37
    replace HV := HV.alloc HV.size (.cells #[.bool false, .string ⟨#[]⟩] 37)
    go_wp2_with fail
    refine (H1.out _).mono ?_
    rintro e u2 ⟨rfl, hb⟩
    replace K0 := K0.below hb
    replace K1 := K1.below hb
    replace K5 := K5.below hb
    replace HV := HV.trans (hb.mono HV.size)
    clear hb
    clear a0 a1 a2 a3 l0 l1
    have a0 : u2.cell? ⟨w.heap.size, 0, none⟩ = some (.bool p) := K0.cell 0
    have a1 : u2.cell? ⟨w.heap.size, 1, none⟩ = some (.string s) := K0.cell 1
    have a2 : u2.cell? ⟨w.heap.size + 1, 0, none⟩ = some (.bool q) := K1.cell 0
    have a3 : u2.cell? ⟨w.heap.size + 1, 1, none⟩ = some (.string t) := K1.cell 1
    have l0 : w.heap.size < u2.heap.size := K0.lt
    have l1 : w.heap.size + 1 < u2.heap.size := K1.lt
    replace K0 := K0.alloc (.cells #[.bool false, .string ⟨#[]⟩] 37)
    replace K1 := K1.alloc (.cells #[.bool false, .string ⟨#[]⟩] 37)
    replace K5 := K5.alloc (.cells #[.bool false, .string ⟨#[]⟩] 37)
    have K7 := Bk.new u2 #[.bool false, .string ⟨#[]⟩] 37
    replace HV := HV.alloc HV.size (.cells #[.bool false, .string ⟨#[]⟩] 37)
    go_wp2_with fail
    refine (H2.out _).mono ?_
    rintro e u3 ⟨rfl, hb⟩
    replace K0 := K0.below hb
    replace K1 := K1.below hb
    replace K5 := K5.below hb
    replace K7 := K7.below hb
    replace HV := HV.trans (hb.mono HV.size)
    clear hb
    clear a0 a1 a2 a3 l0 l1
    have a0 : u3.cell? ⟨w.heap.size, 0, none⟩ = some (.bool p) := K0.cell 0
    have a1 : u3.cell? ⟨w.heap.size, 1, none⟩ = some (.string s) := K0.cell 1
    have a2 : u3.cell? ⟨w.heap.size + 1, 0, none⟩ = some (.bool q) := K1.cell 0
    have a3 : u3.cell? ⟨w.heap.size + 1, 1, none⟩ = some (.string t) := K1.cell 1
    have l0 : w.heap.size < u3.heap.size := K0.lt
    have l1 : w.heap.size + 1 < u3.heap.size := K1.lt
    replace K0 := K0.alloc (.cells #[.bool false, .string ⟨#[]⟩] 37)
    replace K1 := K1.alloc (.cells #[.bool false, .string ⟨#[]⟩] 37)
    replace K5 := K5.alloc (.cells #[.bool false, .string ⟨#[]⟩] 37)
    replace K7 := K7.alloc (.cells #[.bool false, .string ⟨#[]⟩] 37)
    have K9 := Bk.new u3 #[.bool false, .string ⟨#[]⟩] 37
    replace HV := HV.alloc HV.size (.cells #[.bool false, .string ⟨#[]⟩] 37)
    go_wp2_with fail
    refine (H3.out _).mono ?_
    rintro e u4 ⟨rfl, hb⟩
    replace K0 := K0.below hb
    replace K1 := K1.below hb
    replace K5 := K5.below hb
    replace K7 := K7.below hb
    replace K9 := K9.below hb
    replace HV := HV.trans (hb.mono HV.size)
    clear hb
    clear a0 a1 a2 a3 l0 l1
    have a0 : u4.cell? ⟨w.heap.size, 0, none⟩ = some (.bool p) := K0.cell 0
    have a1 : u4.cell? ⟨w.heap.size, 1, none⟩ = some (.string s) := K0.cell 1
    have a2 : u4.cell? ⟨w.heap.size + 1, 0, none⟩ = some (.bool q) := K1.cell 0
    have a3 : u4.cell? ⟨w.heap.size + 1, 1, none⟩ = some (.string t) := K1.cell 1
    have l0 : w.heap.size < u4.heap.size := K0.lt
    have l1 : w.heap.size + 1 < u4.heap.size := K1.lt
    replace K0 := K0.alloc (.cells #[.bool false, .string ⟨#[]⟩] 37)
    replace K1 := K1.alloc (.cells #[.bool false, .string ⟨#[]⟩] 37)
    replace K5 := K5.alloc (.cells #[.bool false, .string ⟨#[]⟩] 37)
    replace K7 := K7.alloc (.cells #[.bool false, .string ⟨#[]⟩] 37)
    replace K9 := K9.alloc (.cells #[.bool false, .string ⟨#[]⟩] 37)
    have K11 := Bk.new u4 #[.bool false, .string ⟨#[]⟩] 37
    replace HV := HV.alloc HV.size (.cells #[.bool false, .string ⟨#[]⟩] 37)
    go_wp2_with fail
    refine (H4.out _).mono ?_
    rintro e u5 ⟨rfl, hb⟩
    replace K0 := K0.below hb
    replace K1 := K1.below hb
    replace K5 := K5.below hb
    replace K7 := K7.below hb
    replace K9 := K9.below hb
    replace K11 := K11.below hb
    replace HV := HV.trans (hb.mono HV.size)
    clear hb
    clear a0 a1 a2 a3 l0 l1
    have a0 : u5.cell? ⟨w.heap.size, 0, none⟩ = some (.bool p) := K0.cell 0
    have a1 : u5.cell? ⟨w.heap.size, 1, none⟩ = some (.string s) := K0.cell 1
    have a2 : u5.cell? ⟨w.heap.size + 1, 0, none⟩ = some (.bool q) := K1.cell 0
    have a3 : u5.cell? ⟨w.heap.size + 1, 1, none⟩ = some (.string t) := K1.cell 1
    have l0 : w.heap.size < u5.heap.size := K0.lt
    have l1 : w.heap.size + 1 < u5.heap.size := K1.lt
    replace K0 := K0.alloc (.cells #[.bool b3, .string t3] 37)
    replace K1 := K1.alloc (.cells #[.bool b3, .string t3] 37)
    replace K5 := K5.alloc (.cells #[.bool b3, .string t3] 37)
    replace K7 := K7.alloc (.cells #[.bool b3, .string t3] 37)
    replace K9 := K9.alloc (.cells #[.bool b3, .string t3] 37)
    replace K11 := K11.alloc (.cells #[.bool b3, .string t3] 37)
    have K13 := Bk.new u5 #[.bool b3, .string t3] 37
    replace HV := HV.alloc HV.size (.cells #[.bool b3, .string t3] 37)
    go_wp2_with fail
    refine (H5.out _).mono ?_
    rintro e u6 ⟨rfl, hb⟩
    replace K0 := K0.below hb
    replace K1 := K1.below hb
    replace K5 := K5.below hb
    replace K7 := K7.below hb
    replace K9 := K9.below hb
    replace K11 := K11.below hb
    replace K13 := K13.below hb
    replace HV := HV.trans (hb.mono HV.size)
    clear hb
    clear a0 a1 a2 a3 l0 l1
    have a0 : u6.cell? ⟨w.heap.size, 0, none⟩ = some (.bool p) := K0.cell 0
    have a1 : u6.cell? ⟨w.heap.size, 1, none⟩ = some (.string s) := K0.cell 1
    have a2 : u6.cell? ⟨w.heap.size + 1, 0, none⟩ = some (.bool q) := K1.cell 0
    have a3 : u6.cell? ⟨w.heap.size + 1, 1, none⟩ = some (.string t) := K1.cell 1
    have l0 : w.heap.size < u6.heap.size := K0.lt
    have l1 : w.heap.size + 1 < u6.heap.size := K1.lt
    replace K0 := K0.alloc (.cells #[.bool b3, .string t3] 37)
    replace K1 := K1.alloc (.cells #[.bool b3, .string t3] 37)
    replace K5 := K5.alloc (.cells #[.bool b3, .string t3] 37)
    replace K7 := K7.alloc (.cells #[.bool b3, .string t3] 37)
    replace K9 := K9.alloc (.cells #[.bool b3, .string t3] 37)
    replace K11 := K11.alloc (.cells #[.bool b3, .string t3] 37)
    replace K13 := K13.alloc (.cells #[.bool b3, .string t3] 37)
    have K15 := Bk.new u6 #[.bool b3, .string t3] 37
    replace HV := HV.alloc HV.size (.cells #[.bool b3, .string t3] 37)
    go_wp2_with fail
    refine (iawake_any _).mono ?_
    rintro e ua ⟨rfl, hb⟩
    replace K0 := K0.below hb
    replace K1 := K1.below hb
    replace K5 := K5.below hb
    replace K7 := K7.below hb
    replace K9 := K9.below hb
    replace K11 := K11.below hb
    replace K13 := K13.below hb
    replace K15 := K15.below hb
    replace HV := HV.trans (hb.mono HV.size)
    clear hb a0 a1 a2 a3 l0 l1
    have x0 : ua.cell? ⟨u1.heap.size, 0, none⟩ = some (.bool false) := K5.cell 0
    have y0 : ua.cell? ⟨u1.heap.size, 1, none⟩ = some (.string ⟨#[]⟩) := K5.cell 1
    have x1 : ua.cell? ⟨u2.heap.size, 0, none⟩ = some (.bool false) := K7.cell 0
    have y1 : ua.cell? ⟨u2.heap.size, 1, none⟩ = some (.string ⟨#[]⟩) := K7.cell 1
    have x2 : ua.cell? ⟨u3.heap.size, 0, none⟩ = some (.bool false) := K9.cell 0
    have y2 : ua.cell? ⟨u3.heap.size, 1, none⟩ = some (.string ⟨#[]⟩) := K9.cell 1
    have x3 : ua.cell? ⟨u4.heap.size, 0, none⟩ = some (.bool false) := K11.cell 0
    have y3 : ua.cell? ⟨u4.heap.size, 1, none⟩ = some (.string ⟨#[]⟩) := K11.cell 1
    have x4 : ua.cell? ⟨u5.heap.size, 0, none⟩ = some (.bool b3) := K13.cell 0
    have y4 : ua.cell? ⟨u5.heap.size, 1, none⟩ = some (.string t3) := K13.cell 1
    have x5 : ua.cell? ⟨u6.heap.size, 0, none⟩ = some (.bool b3) := K15.cell 0
    have y5 : ua.cell? ⟨u6.heap.size, 1, none⟩ = some (.string t3) := K15.cell 1
    go_wp2
    go_ret
    exact ⟨rfl, HV⟩
  · have z1 : (e1 == 0) = false := by rw [beq_eq_false_iff_ne]; exact n1
    clear n1
    have z2 : (e2 == 0) = false := by rw [beq_eq_false_iff_ne]; exact n2
    clear n2
    have z3 : (e3 == 0) = false := by rw [beq_eq_false_iff_ne]; exact n3
    clear n3
    go_enter Try.func6, Try.ntmps6
    go_wp2_with fail
    refine HF.out.mono ?_
    rintro e w' ⟨rfl, rfl⟩
    go_wp2_with fail
    refine (H0.out _).mono ?_
    rintro e u1 ⟨rfl, hb⟩
    replace K0 := K0.below hb
    replace K1 := K1.below hb
    replace HV := HV.trans (hb.mono HV.size)
    clear hb
    have a0 : u1.cell? ⟨w.heap.size, 0, none⟩ = some (.bool p) := K0.cell 0
    have a1 : u1.cell? ⟨w.heap.size, 1, none⟩ = some (.string s) := K0.cell 1
    have a2 : u1.cell? ⟨w.heap.size + 1, 0, none⟩ = some (.bool q) := K1.cell 0
    have a3 : u1.cell? ⟨w.heap.size + 1, 1, none⟩ = some (.string t) := K1.cell 1
    have l0 : w.heap.size < u1.heap.size := K0.lt
    have l1 : w.heap.size + 1 < u1.heap.size := K1.lt
    replace K0 := K0.alloc (.cells #[.bool false, .string ⟨#[]⟩] 37)
    replace K1 := K1.alloc (.cells #[.bool false, .string ⟨#[]⟩] 37)
    have K5 := Bk.new u1 #[.bool false, .string ⟨#[]⟩] 37
    replace HV := HV.alloc HV.size (.cells #[.bool false, .string ⟨#[]⟩] 37)
    go_wp2_with fail
    refine (H1.out _).mono ?_
    rintro e u2 ⟨rfl, hb⟩
    replace K0 := K0.below hb
    replace K1 := K1.below hb
    replace K5 := K5.below hb
    replace HV := HV.trans (hb.mono HV.size)
    clear hb
    clear a0 a1 a2 a3 l0 l1
    have a0 : u2.cell? ⟨w.heap.size, 0, none⟩ = some (.bool p) := K0.cell 0
    have a1 : u2.cell? ⟨w.heap.size, 1, none⟩ = some (.string s) := K0.cell 1
    have a2 : u2.cell? ⟨w.heap.size + 1, 0, none⟩ = some (.bool q) := K1.cell 0
    have a3 : u2.cell? ⟨w.heap.size + 1, 1, none⟩ = some (.string t) := K1.cell 1
    have l0 : w.heap.size < u2.heap.size := K0.lt
    have l1 : w.heap.size + 1 < u2.heap.size := K1.lt
    replace K0 := K0.alloc (.cells #[.bool false, .string ⟨#[]⟩] 37)
    replace K1 := K1.alloc (.cells #[.bool false, .string ⟨#[]⟩] 37)
    replace K5 := K5.alloc (.cells #[.bool false, .string ⟨#[]⟩] 37)
    have K7 := Bk.new u2 #[.bool false, .string ⟨#[]⟩] 37
    replace HV := HV.alloc HV.size (.cells #[.bool false, .string ⟨#[]⟩] 37)
    go_wp2_with fail
    refine (H2.out _).mono ?_
    rintro e u3 ⟨rfl, hb⟩
    replace K0 := K0.below hb
    replace K1 := K1.below hb
    replace K5 := K5.below hb
    replace K7 := K7.below hb
    replace HV := HV.trans (hb.mono HV.size)
    clear hb
    clear a0 a1 a2 a3 l0 l1
    have a0 : u3.cell? ⟨w.heap.size, 0, none⟩ = some (.bool p) := K0.cell 0
    have a1 : u3.cell? ⟨w.heap.size, 1, none⟩ = some (.string s) := K0.cell 1
    have a2 : u3.cell? ⟨w.heap.size + 1, 0, none⟩ = some (.bool q) := K1.cell 0
    have a3 : u3.cell? ⟨w.heap.size + 1, 1, none⟩ = some (.string t) := K1.cell 1
    have l0 : w.heap.size < u3.heap.size := K0.lt
    have l1 : w.heap.size + 1 < u3.heap.size := K1.lt
    replace K0 := K0.alloc (.cells #[.bool false, .string ⟨#[]⟩] 37)
    replace K1 := K1.alloc (.cells #[.bool false, .string ⟨#[]⟩] 37)
    replace K5 := K5.alloc (.cells #[.bool false, .string ⟨#[]⟩] 37)
    replace K7 := K7.alloc (.cells #[.bool false, .string ⟨#[]⟩] 37)
    have K9 := Bk.new u3 #[.bool false, .string ⟨#[]⟩] 37
    replace HV := HV.alloc HV.size (.cells #[.bool false, .string ⟨#[]⟩] 37)
    go_wp2_with fail
    refine (H3.out _).mono ?_
    rintro e u4 ⟨rfl, hb⟩
    replace K0 := K0.below hb
    replace K1 := K1.below hb
    replace K5 := K5.below hb
    replace K7 := K7.below hb
    replace K9 := K9.below hb
    replace HV := HV.trans (hb.mono HV.size)
    clear hb
    clear a0 a1 a2 a3 l0 l1
    have a0 : u4.cell? ⟨w.heap.size, 0, none⟩ = some (.bool p) := K0.cell 0
    have a1 : u4.cell? ⟨w.heap.size, 1, none⟩ = some (.string s) := K0.cell 1
    have a2 : u4.cell? ⟨w.heap.size + 1, 0, none⟩ = some (.bool q) := K1.cell 0
    have a3 : u4.cell? ⟨w.heap.size + 1, 1, none⟩ = some (.string t) := K1.cell 1
    have l0 : w.heap.size < u4.heap.size := K0.lt
    have l1 : w.heap.size + 1 < u4.heap.size := K1.lt
    replace K0 := K0.alloc (.cells #[.bool false, .string ⟨#[]⟩] 37)
    replace K1 := K1.alloc (.cells #[.bool false, .string ⟨#[]⟩] 37)
    replace K5 := K5.alloc (.cells #[.bool false, .string ⟨#[]⟩] 37)
    replace K7 := K7.alloc (.cells #[.bool false, .string ⟨#[]⟩] 37)
    replace K9 := K9.alloc (.cells #[.bool false, .string ⟨#[]⟩] 37)
    have K11 := Bk.new u4 #[.bool false, .string ⟨#[]⟩] 37
    replace HV := HV.alloc HV.size (.cells #[.bool false, .string ⟨#[]⟩] 37)
    go_wp2_with fail
    refine (H4.out _).mono ?_
    rintro e u5 ⟨rfl, hb⟩
    replace K0 := K0.below hb
    replace K1 := K1.below hb
    replace K5 := K5.below hb
    replace K7 := K7.below hb
    replace K9 := K9.below hb
    replace K11 := K11.below hb
    replace HV := HV.trans (hb.mono HV.size)
    clear hb
    clear a0 a1 a2 a3 l0 l1
    have a0 : u5.cell? ⟨w.heap.size, 0, none⟩ = some (.bool p) := K0.cell 0
    have a1 : u5.cell? ⟨w.heap.size, 1, none⟩ = some (.string s) := K0.cell 1
    have a2 : u5.cell? ⟨w.heap.size + 1, 0, none⟩ = some (.bool q) := K1.cell 0
    have a3 : u5.cell? ⟨w.heap.size + 1, 1, none⟩ = some (.string t) := K1.cell 1
    have l0 : w.heap.size < u5.heap.size := K0.lt
    have l1 : w.heap.size + 1 < u5.heap.size := K1.lt
    replace K0 := K0.alloc (.cells #[.bool false, .string ⟨#[]⟩] 37)
    replace K1 := K1.alloc (.cells #[.bool false, .string ⟨#[]⟩] 37)
    replace K5 := K5.alloc (.cells #[.bool false, .string ⟨#[]⟩] 37)
    replace K7 := K7.alloc (.cells #[.bool false, .string ⟨#[]⟩] 37)
    replace K9 := K9.alloc (.cells #[.bool false, .string ⟨#[]⟩] 37)
    replace K11 := K11.alloc (.cells #[.bool false, .string ⟨#[]⟩] 37)
    have K13 := Bk.new u5 #[.bool false, .string ⟨#[]⟩] 37
    replace HV := HV.alloc HV.size (.cells #[.bool false, .string ⟨#[]⟩] 37)
    go_wp2_with fail
    refine (H5.out _).mono ?_
    rintro e u6 ⟨rfl, hb⟩
    replace K0 := K0.below hb
    replace K1 := K1.below hb
    replace K5 := K5.below hb
    replace K7 := K7.below hb
    replace K9 := K9.below hb
    replace K11 := K11.below hb
    replace K13 := K13.below hb
    replace HV := HV.trans (hb.mono HV.size)
    clear hb
    clear a0 a1 a2 a3 l0 l1
    have a0 : u6.cell? ⟨w.heap.size, 0, none⟩ = some (.bool p) := K0.cell 0
    have a1 : u6.cell? ⟨w.heap.size, 1, none⟩ = some (.string s) := K0.cell 1
    have a2 : u6.cell? ⟨w.heap.size + 1, 0, none⟩ = some (.bool q) := K1.cell 0
    have a3 : u6.cell? ⟨w.heap.size + 1, 1, none⟩ = some (.string t) := K1.cell 1
    have l0 : w.heap.size < u6.heap.size := K0.lt
    have l1 : w.heap.size + 1 < u6.heap.size := K1.lt
    replace K0 := K0.alloc (.cells #[.bool false, .string ⟨#[]⟩] 37)
    replace K1 := K1.alloc (.cells #[.bool false, .string ⟨#[]⟩] 37)
    replace K5 := K5.alloc (.cells #[.bool false, .string ⟨#[]⟩] 37)
    replace K7 := K7.alloc (.cells #[.bool false, .string ⟨#[]⟩] 37)
    replace K9 := K9.alloc (.cells #[.bool false, .string ⟨#[]⟩] 37)
    replace K11 := K11.alloc (.cells #[.bool false, .string ⟨#[]⟩] 37)
    replace K13 := K13.alloc (.cells #[.bool false, .string ⟨#[]⟩] 37)
    have K15 := Bk.new u6 #[.bool false, .string ⟨#[]⟩] 37
    replace HV := HV.alloc HV.size (.cells #[.bool false, .string ⟨#[]⟩] 37)
    go_wp2_with fail
    refine (iawake_any _).mono ?_
    rintro e ua ⟨rfl, hb⟩
    replace K0 := K0.below hb
    replace K1 := K1.below hb
    replace K5 := K5.below hb
    replace K7 := K7.below hb
    replace K9 := K9.below hb
    replace K11 := K11.below hb
    replace K13 := K13.below hb
    replace K15 := K15.below hb
    replace HV := HV.trans (hb.mono HV.size)
    clear hb a0 a1 a2 a3 l0 l1
    have x0 : ua.cell? ⟨u1.heap.size, 0, none⟩ = some (.bool false) := K5.cell 0
    have y0 : ua.cell? ⟨u1.heap.size, 1, none⟩ = some (.string ⟨#[]⟩) := K5.cell 1
    have x1 : ua.cell? ⟨u2.heap.size, 0, none⟩ = some (.bool false) := K7.cell 0
    have y1 : ua.cell? ⟨u2.heap.size, 1, none⟩ = some (.string ⟨#[]⟩) := K7.cell 1
    have x2 : ua.cell? ⟨u3.heap.size, 0, none⟩ = some (.bool false) := K9.cell 0
    have y2 : ua.cell? ⟨u3.heap.size, 1, none⟩ = some (.string ⟨#[]⟩) := K9.cell 1
    have x3 : ua.cell? ⟨u4.heap.size, 0, none⟩ = some (.bool false) := K11.cell 0
    have y3 : ua.cell? ⟨u4.heap.size, 1, none⟩ = some (.string ⟨#[]⟩) := K11.cell 1
    have x4 : ua.cell? ⟨u5.heap.size, 0, none⟩ = some (.bool false) := K13.cell 0
    have y4 : ua.cell? ⟨u5.heap.size, 1, none⟩ = some (.string ⟨#[]⟩) := K13.cell 1
    have x5 : ua.cell? ⟨u6.heap.size, 0, none⟩ = some (.bool false) := K15.cell 0
    have y5 : ua.cell? ⟨u6.heap.size, 1, none⟩ = some (.string ⟨#[]⟩) := K15.cell 1
    go_wp2
    go_ret
    exact ⟨rfl, HV⟩

set_option maxHeartbeats 1000000 in
set_option maxRecDepth 100000 in
theorem iadds_big (p q : Bool) (s t : ByteArray) (w : World) (hs : s.size ≤ 9223372036854775807) (ht : t.size ≤ 9223372036854775807) (h : 140 < s.size ∨ 140 < t.size) :
    Calls Try.prog 6 #[.agg #[.bool p, .string s], .agg #[.bool q, .string t]] w (Made w (.bool true)) := by
  have K0 := ((Bk.new w #[.bool p, .string s] 37).alloc (.cells #[.bool q, .string t] 37)).alloc (.cells #[.bool p, .string s, .bool q, .string t] 37)
  have K1 := (Bk.new1 w (.cells #[.bool p, .string s] 37) #[.bool q, .string t] 37).alloc (.cells #[.bool p, .string s, .bool q, .string t] 37)
  have KS : Bk (((w.alloc (.cells #[.bool p, .string s] 37)).alloc (.cells #[.bool q, .string t] 37)).alloc (.cells #[.bool p, .string s, .bool q, .string t] 37)) (w.heap.size + 1 + 1) #[.bool p, .string s, .bool q, .string t] 37 := by
    have := Bk.new ((w.alloc (.cells #[.bool p, .string s] 37)).alloc (.cells #[.bool q, .string t] 37)) #[.bool p, .string s, .bool q, .string t] 37
    rwa [show ((w.alloc (.cells #[.bool p, .string s] 37)).alloc (.cells #[.bool q, .string t] 37)).heap.size = w.heap.size + 1 + 1 from by simp] at this
  have HV : Below w.heap.size w (((w.alloc (.cells #[.bool p, .string s] 37)).alloc (.cells #[.bool q, .string t] 37)).alloc (.cells #[.bool p, .string s, .bool q, .string t] 37)) := ((((Below.refl w.heap.size w).alloc (Nat.le_refl _) (.cells #[.bool p, .string s] 37)).alloc (by simp) (.cells #[.bool q, .string t] 37)).alloc (by simp; omega) (.cells #[.bool p, .string s, .bool q, .string t] 37))
  have HF := Lib.hid (long_yes (w.heap.size + 1 + 1) 2 2 (fun k => if k = 0 then s else t) (((w.alloc (.cells #[.bool p, .string s] 37)).alloc (.cells #[.bool q, .string t] 37)).alloc (.cells #[.bool p, .string s, .bool q, .string t] 37)) (fun k hk => by
    match k, hk with
    | 0, _ => exact KS.cell 1
    | 1, _ => exact KS.cell 3) (by decide) (fun k hk => by
      match k, hk with
      | 0, _ => exact hs
      | 1, _ => exact ht) (by
      rcases h with h | h
      · exact ⟨0, by omega, h⟩
      · exact ⟨1, by omega, h⟩))
  clear KS
  clear K0 K1
  go_enter Try.func6, Try.ntmps6
  go_wp2_with fail
  refine HF.out.mono ?_
  rintro e w' ⟨rfl, rfl⟩
  go_wp2_with fail
  refine (iawake_any _).mono ?_
  rintro e ua ⟨rfl, hb⟩
  replace HV := HV.trans (hb.mono HV.size)
  go_wp2
  go_ret
  exact ⟨rfl, HV⟩

/-- What an operation hands back to both: the number, or nothing beside an error. -/
def Both (f g : Nat) (p q : Bool) (s t : ByteArray) : Prop := ∃ (b : Bool) (u : ByteArray) (e : Int), (e = 0 ∨ (e ≠ 0 ∧ b = false ∧ u = ⟨#[]⟩)) ∧
  (∀ W, Calls Try.prog f #[.agg #[.bool p, .string s], .agg #[.bool q, .string t]] W (Made W (.tuple #[.agg #[.bool b, .string u], .int .i64 e]))) ∧
  (∀ W, Calls Try.prog g #[.agg #[.bool p, .string s], .agg #[.bool q, .string t]] W (Made W (.tuple #[.agg #[.bool b, .string u], .int .i64 e])))
theorem res_zero {z : Int} (h : z = 0) : zneg z = false ∧ bs (zabs z) = ⟨#[]⟩ := by subst h; exact ⟨rfl, by rw [show zabs 0 = 0 from rfl, bs_zero]⟩
theorem addRes_or (z : Int) : (addRes z).2 = 0 ∨ ((addRes z).2 ≠ 0 ∧ zneg (addRes z).1 = false ∧ bs (zabs (addRes z).1) = ⟨#[]⟩) := by
  unfold addRes
  by_cases h : zabs z < Top
  · rw [if_pos h]; exact .inl rfl
  · rw [if_neg h]; exact .inr ⟨by decide, res_zero rfl⟩
theorem both_no {f g : Nat} {p q : Bool} {s t : ByteArray}
    (F1 : vI p s = false → ∀ W, Calls Try.prog f #[.agg #[.bool p, .string s], .agg #[.bool q, .string t]] W (Made W (.tuple #[(.agg #[.bool (zneg 0), .string (bs (zabs 0))]), .int .i64 3])))
    (G1 : vI p s = false → ∀ W, Calls Try.prog g #[.agg #[.bool p, .string s], .agg #[.bool q, .string t]] W (Made W (.tuple #[(.agg #[.bool (zneg 0), .string (bs (zabs 0))]), .int .i64 3])))
    (F2 : ∀ x : Int, zabs x < Top → p = zneg x → s = bs (zabs x) → vI q t = false → ∀ W, Calls Try.prog f #[.agg #[.bool p, .string s], .agg #[.bool q, .string t]] W (Made W (.tuple #[(.agg #[.bool (zneg 0), .string (bs (zabs 0))]), .int .i64 3])))
    (G2 : ∀ x : Int, zabs x < Top → p = zneg x → s = bs (zabs x) → vI q t = false → ∀ W, Calls Try.prog g #[.agg #[.bool p, .string s], .agg #[.bool q, .string t]] W (Made W (.tuple #[(.agg #[.bool (zneg 0), .string (bs (zabs 0))]), .int .i64 3])))
    (Y : ∀ x y : Int, zabs x < Top → zabs y < Top → p = zneg x → s = bs (zabs x) → q = zneg y → t = bs (zabs y) → Both f g p q s t) : Both f g p q s t := by
  obtain ⟨z1, z2⟩ := res_zero (z := 0) rfl
  rcases h1 : vI p s with _ | _
  · exact ⟨_, _, 3, .inr ⟨by decide, z1, z2⟩, F1 h1, G1 h1⟩
  · obtain ⟨x, hx, e1, e2⟩ := vI_of h1
    rcases h2 : vI q t with _ | _
    · exact ⟨_, _, 3, .inr ⟨by decide, z1, z2⟩, F2 x hx e1 e2 h2, G2 x hx e1 e2 h2⟩
    · obtain ⟨y, hy, e3, e4⟩ := vI_of h2
      exact Y x y hx hy e1 e2 e3 e4

theorem both_add (p q : Bool) (s t : ByteArray) (hs : s.size ≤ 9223372036854775807) (ht : t.size ≤ 9223372036854775807) : Both 34 35 p q s t := by
  refine both_no (fun h W => iadd_no1 h hs W) (fun h W => riadd_no1 h hs W) (fun x hx e1 e2 h W => ?_) (fun x hx e1 e2 h W => ?_) (fun x y hx hy e1 e2 e3 e4 => ?_)
  · subst e1 e2; exact iadd_no2 hx h ht W
  · subst e1 e2; exact riadd_no2 hx h ht W
  · subst e1 e2 e3 e4
    exact ⟨_, _, _, addRes_or (x + y), fun W => iadd_any hx hy W, fun W => riadd_any hx hy W⟩

theorem both_sub (p q : Bool) (s t : ByteArray) (hs : s.size ≤ 9223372036854775807) (ht : t.size ≤ 9223372036854775807) : Both 36 37 p q s t := by
  refine both_no (fun h W => isub_no1 h hs W) (fun h W => risub_no1 h hs W) (fun x hx e1 e2 h W => ?_) (fun x hx e1 e2 h W => ?_) (fun x y hx hy e1 e2 e3 e4 => ?_)
  · subst e1 e2; exact isub_no2 hx h ht W
  · subst e1 e2; exact risub_no2 hx h ht W
  · subst e1 e2 e3 e4
    exact ⟨_, _, _, addRes_or (x - y), fun W => isub_any hx hy W, fun W => risub_any hx hy W⟩

theorem both_mul (p q : Bool) (s t : ByteArray) (hs : s.size ≤ 9223372036854775807) (ht : t.size ≤ 9223372036854775807) : Both 38 39 p q s t := by
  refine both_no (fun h W => imul_no1 h hs W) (fun h W => rimul_no1 h hs W) (fun x hx e1 e2 h W => ?_) (fun x hx e1 e2 h W => ?_) (fun x y hx hy e1 e2 e3 e4 => ?_)
  · subst e1 e2; exact imul_no2 hx h ht W
  · subst e1 e2; exact rimul_no2 hx h ht W
  · subst e1 e2 e3 e4
    by_cases hv : zabs (x * y) < Top
    · exact ⟨_, _, 0, .inl rfl, fun W => imul_ok hx hy hv W, fun W => rimul_ok hx hy hv W⟩
    · exact ⟨_, _, 5, .inr ⟨by decide, res_zero (z := 0) rfl⟩, fun W => imul_long hx hy (by omega) W, fun W => rimul_long hx hy (by omega) W⟩

theorem law_iadds (p q : Bool) (s t : ByteArray) (w : World) (hs : s.size ≤ 9223372036854775807) (ht : t.size ≤ 9223372036854775807) :
    Calls Try.prog 6 #[.agg #[.bool p, .string s], .agg #[.bool q, .string t]] w (Made w (.bool true)) := by
  by_cases h : 140 < s.size ∨ 140 < t.size
  · exact iadds_big p q s t w hs ht h
  · obtain ⟨b1, t1, e1, h1, c0, c1⟩ := both_add p q s t hs ht
    obtain ⟨b2, t2, e2, h2, c2, c3⟩ := both_sub p q s t hs ht
    obtain ⟨b3, t3, e3, h3, c4, c5⟩ := both_mul p q s t hs ht
    exact iadds_core p q s t b1 b2 b3 t1 t2 t3 e1 e2 e3 w (by omega) (by omega) h1 h2 h3 c0 c1 c2 c3 c4 c5

end Go.Proofs.Ytehpdpcpdfgnlaa
