/-
  dominolaw02.IntegerRing returns true: the walk.
-/
import Derived.Test.YtbkbjjdjgiapdaaIntT
import Derived.Test.YtbkbjjdjgiapdaaIntU
import Derived.Test.YtbkbjjdjgiapdaaQuiet
import Derived.Deep.Cut
import Derived.Deep.CutRange
import Derived.Deep.RegionHeld3
namespace Go.Proofs.Ytbkbjjdjgiapdaa
open Go.RowKit Num

set_option maxHeartbeats 16000000 in
set_option maxRecDepth 1000000 in
theorem iring_core (p q o bAB bBC bS bP bQ bR bD bZ : Bool) (s t u tAB tBC tS tP tQ tR tD tZ : ByteArray) (n m : Int) (w : World) (hs : s.size ≤ 30) (ht : t.size ≤ 30) (hu : u.size ≤ 30) (n0 : -1 ≤ n) (n1 : n ≤ 1)
    (hq : (n = 0 ∧ p = q ∧ s = t) ∨ ((n == 0) = false ∧ (p == q) = false) ∨ ((n == 0) = false ∧ p = q ∧ (s.toList == t.toList) = false))
    (cV1 : ∀ W, Calls Try.prog 25 #[.agg #[.bool p, .string s]] W (Made W (.bool true)))
    (cV2 : ∀ W, Calls Try.prog 25 #[.agg #[.bool q, .string t]] W (Made W (.bool true)))
    (cV3 : ∀ W, Calls Try.prog 25 #[.agg #[.bool o, .string u]] W (Made W (.bool true)))
    (cA1 : ∀ W, Calls Try.prog 34 #[.agg #[.bool p, .string s], .agg #[.bool q, .string t]] W (Made W (.tuple #[.agg #[.bool bAB, .string tAB], .int .i64 0])))
    (cA2 : ∀ W, Calls Try.prog 34 #[.agg #[.bool q, .string t], .agg #[.bool p, .string s]] W (Made W (.tuple #[.agg #[.bool bAB, .string tAB], .int .i64 0])))
    (cA3 : ∀ W, Calls Try.prog 34 #[.agg #[.bool q, .string t], .agg #[.bool o, .string u]] W (Made W (.tuple #[.agg #[.bool bBC, .string tBC], .int .i64 0])))
    (cA4 : ∀ W, Calls Try.prog 36 #[.agg #[.bool bAB, .string tAB], .agg #[.bool q, .string t]] W (Made W (.tuple #[.agg #[.bool p, .string s], .int .i64 0])))
    (cA5 : ∀ W, Calls Try.prog 34 #[.agg #[.bool bAB, .string tAB], .agg #[.bool o, .string u]] W (Made W (.tuple #[.agg #[.bool bS, .string tS], .int .i64 0])))
    (cA6 : ∀ W, Calls Try.prog 34 #[.agg #[.bool p, .string s], .agg #[.bool bBC, .string tBC]] W (Made W (.tuple #[.agg #[.bool bS, .string tS], .int .i64 0])))
    (cM1 : ∀ W, Calls Try.prog 38 #[.agg #[.bool p, .string s], .agg #[.bool bBC, .string tBC]] W (Made W (.tuple #[.agg #[.bool bP, .string tP], .int .i64 0])))
    (cM2 : ∀ W, Calls Try.prog 38 #[.agg #[.bool p, .string s], .agg #[.bool q, .string t]] W (Made W (.tuple #[.agg #[.bool bQ, .string tQ], .int .i64 0])))
    (cM3 : ∀ W, Calls Try.prog 38 #[.agg #[.bool p, .string s], .agg #[.bool o, .string u]] W (Made W (.tuple #[.agg #[.bool bR, .string tR], .int .i64 0])))
    (cA7 : ∀ W, Calls Try.prog 34 #[.agg #[.bool bQ, .string tQ], .agg #[.bool bR, .string tR]] W (Made W (.tuple #[.agg #[.bool bP, .string tP], .int .i64 0])))
    (cM4 : ∀ W, Calls Try.prog 38 #[.agg #[.bool q, .string t], .agg #[.bool p, .string s]] W (Made W (.tuple #[.agg #[.bool bQ, .string tQ], .int .i64 0])))
    (cS1 : ∀ W, Calls Try.prog 36 #[.agg #[.bool p, .string s], .agg #[.bool q, .string t]] W (Made W (.tuple #[.agg #[.bool bD, .string tD], .int .i64 0])))
    (cC1 : ∀ W, Calls Try.prog 32 #[.agg #[.bool p, .string s], .agg #[.bool q, .string t]] W (Made W (.int .i64 n)))
    (cC2 : ∀ W, Calls Try.prog 32 #[.agg #[.bool q, .string t], .agg #[.bool p, .string s]] W (Made W (.int .i64 (-n))))
    (cO0 : ∀ W, Calls Try.prog 24 #[.int .i64 0] W (Made W (.agg #[.bool bZ, .string tZ])))
    (cC3 : ∀ W, Calls Try.prog 32 #[.agg #[.bool bD, .string tD], .agg #[.bool bZ, .string tZ]] W (Made W (.int .i64 n)))
    (cC4 : ∀ W, Calls Try.prog 32 #[.agg #[.bool bAB, .string tAB], .agg #[.bool bBC, .string tBC]] W (Made W (.int .i64 m)))
    (cC5 : ∀ W, Calls Try.prog 32 #[.agg #[.bool p, .string s], .agg #[.bool o, .string u]] W (Made W (.int .i64 m))) :
    Calls Try.prog 11 #[.agg #[.bool p, .string s], .agg #[.bool q, .string t], .agg #[.bool o, .string u]] w (Made w (.bool true)) := by
  rcases hq with ⟨rfl, rfl, rfl⟩ | ⟨hn, hpq⟩ | ⟨hn, rfl, hst⟩
  · have V1 := Lib.hid cV1
    have V2 := Lib.hid cV2
    have V3 := Lib.hid cV3
    have A1 := Lib.hid cA1
    have A2 := Lib.hid cA2
    have A3 := Lib.hid cA3
    have A4 := Lib.hid cA4
    have A5 := Lib.hid cA5
    have A6 := Lib.hid cA6
    have M1 := Lib.hid cM1
    have M2 := Lib.hid cM2
    have M3 := Lib.hid cM3
    have A7 := Lib.hid cA7
    have M4 := Lib.hid cM4
    have S1 := Lib.hid cS1
    have C1 := Lib.hid cC1
    have C2 := Lib.hid cC2
    have O0 := Lib.hid cO0
    have C3 := Lib.hid cC3
    have C4 := Lib.hid cC4
    have C5 := Lib.hid cC5
    clear cV1 cV2 cV3 cA1 cA2 cA3 cA4 cA5 cA6 cM1 cM2 cM3 cA7 cM4 cS1 cC1 cC2 cO0 cC3 cC4 cC5
    have K3 := ((Bk.new w #[.bool p, .string s] 37).alloc (.cells #[.bool p, .string s] 37)).alloc (.cells #[.bool o, .string u] 37)
    have K4 := (Bk.new1 w (.cells #[.bool p, .string s] 37) #[.bool p, .string s] 37).alloc (.cells #[.bool o, .string u] 37)
    have K5 := Bk.new1 (w.alloc (.cells #[.bool p, .string s] 37)) (.cells #[.bool p, .string s] 37) #[.bool o, .string u] 37
    rw [show (w.alloc (.cells #[.bool p, .string s] 37)).heap.size + 1 = w.heap.size + 1 + 1 from by simp] at K5
    have HV := (((Below.refl w.heap.size w).alloc (Nat.le_refl _) (.cells #[.bool p, .string s] 37)).alloc (by simp) (.cells #[.bool p, .string s] 37)).alloc (by simp; omega) (.cells #[.bool o, .string u] 37)
    go_enter Try.func11, Try.ntmps11
    go_wp2_with fail
    refine (V1.out _).mono ?_
    rintro e u1 ⟨rfl, hb⟩
    replace K3 := K3.below hb
    replace K4 := K4.below hb
    replace K5 := K5.below hb
    replace HV := HV.trans (hb.mono HV.size)
    clear hb
    have zK3a : u1.cell? ⟨w.heap.size, 0, none⟩ = some (.bool p) := K3.cell 0
    have zK3b : u1.cell? ⟨w.heap.size, 1, none⟩ = some (.string s) := K3.cell 1
    have zK3l : w.heap.size < u1.heap.size := K3.lt
    have zK4a : u1.cell? ⟨w.heap.size + 1, 0, none⟩ = some (.bool p) := K4.cell 0
    have zK4b : u1.cell? ⟨w.heap.size + 1, 1, none⟩ = some (.string s) := K4.cell 1
    have zK4l : w.heap.size + 1 < u1.heap.size := K4.lt
    have zK5a : u1.cell? ⟨w.heap.size + 1 + 1, 0, none⟩ = some (.bool o) := K5.cell 0
    have zK5b : u1.cell? ⟨w.heap.size + 1 + 1, 1, none⟩ = some (.string u) := K5.cell 1
    have zK5l : w.heap.size + 1 + 1 < u1.heap.size := K5.lt
    go_wp2_with fail
    refine (V2.out _).mono ?_
    rintro e u2 ⟨rfl, hb⟩
    replace K3 := K3.below hb
    replace K4 := K4.below hb
    replace K5 := K5.below hb
    replace HV := HV.trans (hb.mono HV.size)
    clear hb
    clear zK3a zK3b zK3l zK4a zK4b zK4l zK5a zK5b zK5l
    have zK3a : u2.cell? ⟨w.heap.size, 0, none⟩ = some (.bool p) := K3.cell 0
    have zK3b : u2.cell? ⟨w.heap.size, 1, none⟩ = some (.string s) := K3.cell 1
    have zK3l : w.heap.size < u2.heap.size := K3.lt
    have zK4a : u2.cell? ⟨w.heap.size + 1, 0, none⟩ = some (.bool p) := K4.cell 0
    have zK4b : u2.cell? ⟨w.heap.size + 1, 1, none⟩ = some (.string s) := K4.cell 1
    have zK4l : w.heap.size + 1 < u2.heap.size := K4.lt
    have zK5a : u2.cell? ⟨w.heap.size + 1 + 1, 0, none⟩ = some (.bool o) := K5.cell 0
    have zK5b : u2.cell? ⟨w.heap.size + 1 + 1, 1, none⟩ = some (.string u) := K5.cell 1
    have zK5l : w.heap.size + 1 + 1 < u2.heap.size := K5.lt
    go_wp2_with fail
    refine (V3.out _).mono ?_
    rintro e u3 ⟨rfl, hb⟩
    replace K3 := K3.below hb
    replace K4 := K4.below hb
    replace K5 := K5.below hb
    replace HV := HV.trans (hb.mono HV.size)
    clear hb
    clear zK3a zK3b zK3l zK4a zK4b zK4l zK5a zK5b zK5l
    have zK3a : u3.cell? ⟨w.heap.size, 0, none⟩ = some (.bool p) := K3.cell 0
    have zK3b : u3.cell? ⟨w.heap.size, 1, none⟩ = some (.string s) := K3.cell 1
    have zK3l : w.heap.size < u3.heap.size := K3.lt
    have zK4a : u3.cell? ⟨w.heap.size + 1, 0, none⟩ = some (.bool p) := K4.cell 0
    have zK4b : u3.cell? ⟨w.heap.size + 1, 1, none⟩ = some (.string s) := K4.cell 1
    have zK4l : w.heap.size + 1 < u3.heap.size := K4.lt
    have zK5a : u3.cell? ⟨w.heap.size + 1 + 1, 0, none⟩ = some (.bool o) := K5.cell 0
    have zK5b : u3.cell? ⟨w.heap.size + 1 + 1, 1, none⟩ = some (.string u) := K5.cell 1
    have zK5l : w.heap.size + 1 + 1 < u3.heap.size := K5.lt
    go_wp2_with fail
    refine (A1.out _).mono ?_
    rintro e u4 ⟨rfl, hb⟩
    replace K3 := K3.below hb
    replace K4 := K4.below hb
    replace K5 := K5.below hb
    replace HV := HV.trans (hb.mono HV.size)
    clear hb
    clear zK3a zK3b zK3l zK4a zK4b zK4l zK5a zK5b zK5l
    have zK3a : u4.cell? ⟨w.heap.size, 0, none⟩ = some (.bool p) := K3.cell 0
    have zK3b : u4.cell? ⟨w.heap.size, 1, none⟩ = some (.string s) := K3.cell 1
    have zK3l : w.heap.size < u4.heap.size := K3.lt
    have zK4a : u4.cell? ⟨w.heap.size + 1, 0, none⟩ = some (.bool p) := K4.cell 0
    have zK4b : u4.cell? ⟨w.heap.size + 1, 1, none⟩ = some (.string s) := K4.cell 1
    have zK4l : w.heap.size + 1 < u4.heap.size := K4.lt
    replace K3 := K3.alloc (.cells #[.bool bAB, .string tAB] 37)
    replace K4 := K4.alloc (.cells #[.bool bAB, .string tAB] 37)
    replace K5 := K5.alloc (.cells #[.bool bAB, .string tAB] 37)
    have K7 := Bk.new u4 #[.bool bAB, .string tAB] 37
    replace HV := HV.alloc HV.size (.cells #[.bool bAB, .string tAB] 37)
    go_wp2_with fail
    refine (A2.out _).mono ?_
    rintro e u5 ⟨rfl, hb⟩
    replace K3 := K3.below hb
    replace K4 := K4.below hb
    replace K5 := K5.below hb
    replace K7 := K7.below hb
    replace HV := HV.trans (hb.mono HV.size)
    clear hb
    clear zK3a zK3b zK3l zK4a zK4b zK4l
    have zK4a : u5.cell? ⟨w.heap.size + 1, 0, none⟩ = some (.bool p) := K4.cell 0
    have zK4b : u5.cell? ⟨w.heap.size + 1, 1, none⟩ = some (.string s) := K4.cell 1
    have zK4l : w.heap.size + 1 < u5.heap.size := K4.lt
    have zK5a : u5.cell? ⟨w.heap.size + 1 + 1, 0, none⟩ = some (.bool o) := K5.cell 0
    have zK5b : u5.cell? ⟨w.heap.size + 1 + 1, 1, none⟩ = some (.string u) := K5.cell 1
    have zK5l : w.heap.size + 1 + 1 < u5.heap.size := K5.lt
    replace K3 := K3.alloc (.cells #[.bool bAB, .string tAB] 37)
    replace K4 := K4.alloc (.cells #[.bool bAB, .string tAB] 37)
    replace K5 := K5.alloc (.cells #[.bool bAB, .string tAB] 37)
    replace K7 := K7.alloc (.cells #[.bool bAB, .string tAB] 37)
    have K9 := Bk.new u5 #[.bool bAB, .string tAB] 37
    replace HV := HV.alloc HV.size (.cells #[.bool bAB, .string tAB] 37)
    go_wp2_with fail
    refine (A3.out _).mono ?_
    rintro e u6 ⟨rfl, hb⟩
    replace K3 := K3.below hb
    replace K4 := K4.below hb
    replace K5 := K5.below hb
    replace K7 := K7.below hb
    replace K9 := K9.below hb
    replace HV := HV.trans (hb.mono HV.size)
    clear hb
    clear zK4a zK4b zK4l zK5a zK5b zK5l
    have zK7a : u6.cell? ⟨u4.heap.size, 0, none⟩ = some (.bool bAB) := K7.cell 0
    have zK7b : u6.cell? ⟨u4.heap.size, 1, none⟩ = some (.string tAB) := K7.cell 1
    have zK7l : u4.heap.size < u6.heap.size := K7.lt
    have zK4a : u6.cell? ⟨w.heap.size + 1, 0, none⟩ = some (.bool p) := K4.cell 0
    have zK4b : u6.cell? ⟨w.heap.size + 1, 1, none⟩ = some (.string s) := K4.cell 1
    have zK4l : w.heap.size + 1 < u6.heap.size := K4.lt
    replace K3 := K3.alloc (.cells #[.bool bBC, .string tBC] 37)
    replace K4 := K4.alloc (.cells #[.bool bBC, .string tBC] 37)
    replace K5 := K5.alloc (.cells #[.bool bBC, .string tBC] 37)
    replace K7 := K7.alloc (.cells #[.bool bBC, .string tBC] 37)
    replace K9 := K9.alloc (.cells #[.bool bBC, .string tBC] 37)
    have K11 := Bk.new u6 #[.bool bBC, .string tBC] 37
    replace HV := HV.alloc HV.size (.cells #[.bool bBC, .string tBC] 37)
    go_wp2_with fail
    refine (A4.out _).mono ?_
    rintro e u7 ⟨rfl, hb⟩
    replace K3 := K3.below hb
    replace K4 := K4.below hb
    replace K5 := K5.below hb
    replace K7 := K7.below hb
    replace K9 := K9.below hb
    replace K11 := K11.below hb
    replace HV := HV.trans (hb.mono HV.size)
    clear hb
    clear zK7a zK7b zK7l zK4a zK4b zK4l
    have zK7a : u7.cell? ⟨u4.heap.size, 0, none⟩ = some (.bool bAB) := K7.cell 0
    have zK7b : u7.cell? ⟨u4.heap.size, 1, none⟩ = some (.string tAB) := K7.cell 1
    have zK7l : u4.heap.size < u7.heap.size := K7.lt
    have zK9a : u7.cell? ⟨u5.heap.size, 0, none⟩ = some (.bool bAB) := K9.cell 0
    have zK9b : u7.cell? ⟨u5.heap.size, 1, none⟩ = some (.string tAB) := K9.cell 1
    have zK9l : u5.heap.size < u7.heap.size := K9.lt
    have zK3a : u7.cell? ⟨w.heap.size, 0, none⟩ = some (.bool p) := K3.cell 0
    have zK3b : u7.cell? ⟨w.heap.size, 1, none⟩ = some (.string s) := K3.cell 1
    have zK3l : w.heap.size < u7.heap.size := K3.lt
    have zK5a : u7.cell? ⟨w.heap.size + 1 + 1, 0, none⟩ = some (.bool o) := K5.cell 0
    have zK5b : u7.cell? ⟨w.heap.size + 1 + 1, 1, none⟩ = some (.string u) := K5.cell 1
    have zK5l : w.heap.size + 1 + 1 < u7.heap.size := K5.lt
    replace K3 := K3.alloc (.cells #[.bool p, .string s] 37)
    replace K4 := K4.alloc (.cells #[.bool p, .string s] 37)
    replace K5 := K5.alloc (.cells #[.bool p, .string s] 37)
    replace K7 := K7.alloc (.cells #[.bool p, .string s] 37)
    replace K9 := K9.alloc (.cells #[.bool p, .string s] 37)
    replace K11 := K11.alloc (.cells #[.bool p, .string s] 37)
    have K13 := Bk.new u7 #[.bool p, .string s] 37
    replace HV := HV.alloc HV.size (.cells #[.bool p, .string s] 37)
    go_wp2_with fail
    refine (A5.out _).mono ?_
    rintro e u8 ⟨rfl, hb⟩
    replace K3 := K3.below hb
    replace K4 := K4.below hb
    replace K5 := K5.below hb
    replace K7 := K7.below hb
    replace K9 := K9.below hb
    replace K11 := K11.below hb
    replace K13 := K13.below hb
    replace HV := HV.trans (hb.mono HV.size)
    clear hb
    clear zK7a zK7b zK7l zK9a zK9b zK9l zK3a zK3b zK3l zK5a zK5b zK5l
    have zK3a : u8.cell? ⟨w.heap.size, 0, none⟩ = some (.bool p) := K3.cell 0
    have zK3b : u8.cell? ⟨w.heap.size, 1, none⟩ = some (.string s) := K3.cell 1
    have zK3l : w.heap.size < u8.heap.size := K3.lt
    have zK11a : u8.cell? ⟨u6.heap.size, 0, none⟩ = some (.bool bBC) := K11.cell 0
    have zK11b : u8.cell? ⟨u6.heap.size, 1, none⟩ = some (.string tBC) := K11.cell 1
    have zK11l : u6.heap.size < u8.heap.size := K11.lt
    replace K3 := K3.alloc (.cells #[.bool bS, .string tS] 37)
    replace K4 := K4.alloc (.cells #[.bool bS, .string tS] 37)
    replace K5 := K5.alloc (.cells #[.bool bS, .string tS] 37)
    replace K7 := K7.alloc (.cells #[.bool bS, .string tS] 37)
    replace K9 := K9.alloc (.cells #[.bool bS, .string tS] 37)
    replace K11 := K11.alloc (.cells #[.bool bS, .string tS] 37)
    replace K13 := K13.alloc (.cells #[.bool bS, .string tS] 37)
    have K15 := Bk.new u8 #[.bool bS, .string tS] 37
    replace HV := HV.alloc HV.size (.cells #[.bool bS, .string tS] 37)
    go_wp2_with fail
    refine (A6.out _).mono ?_
    rintro e u9 ⟨rfl, hb⟩
    replace K3 := K3.below hb
    replace K4 := K4.below hb
    replace K5 := K5.below hb
    replace K7 := K7.below hb
    replace K9 := K9.below hb
    replace K11 := K11.below hb
    replace K13 := K13.below hb
    replace K15 := K15.below hb
    replace HV := HV.trans (hb.mono HV.size)
    clear hb
    clear zK3a zK3b zK3l zK11a zK11b zK11l
    have zK3a : u9.cell? ⟨w.heap.size, 0, none⟩ = some (.bool p) := K3.cell 0
    have zK3b : u9.cell? ⟨w.heap.size, 1, none⟩ = some (.string s) := K3.cell 1
    have zK3l : w.heap.size < u9.heap.size := K3.lt
    have zK11a : u9.cell? ⟨u6.heap.size, 0, none⟩ = some (.bool bBC) := K11.cell 0
    have zK11b : u9.cell? ⟨u6.heap.size, 1, none⟩ = some (.string tBC) := K11.cell 1
    have zK11l : u6.heap.size < u9.heap.size := K11.lt
    replace K3 := K3.alloc (.cells #[.bool bS, .string tS] 37)
    replace K4 := K4.alloc (.cells #[.bool bS, .string tS] 37)
    replace K5 := K5.alloc (.cells #[.bool bS, .string tS] 37)
    replace K7 := K7.alloc (.cells #[.bool bS, .string tS] 37)
    replace K9 := K9.alloc (.cells #[.bool bS, .string tS] 37)
    replace K11 := K11.alloc (.cells #[.bool bS, .string tS] 37)
    replace K13 := K13.alloc (.cells #[.bool bS, .string tS] 37)
    replace K15 := K15.alloc (.cells #[.bool bS, .string tS] 37)
    have K16 := Bk.new u9 #[.bool bS, .string tS] 37
    replace HV := HV.alloc HV.size (.cells #[.bool bS, .string tS] 37)
    go_wp2_with fail
    refine (M1.out _).mono ?_
    rintro e u10 ⟨rfl, hb⟩
    replace K3 := K3.below hb
    replace K4 := K4.below hb
    replace K5 := K5.below hb
    replace K7 := K7.below hb
    replace K9 := K9.below hb
    replace K11 := K11.below hb
    replace K13 := K13.below hb
    replace K15 := K15.below hb
    replace K16 := K16.below hb
    replace HV := HV.trans (hb.mono HV.size)
    clear hb
    clear zK3a zK3b zK3l zK11a zK11b zK11l
    have zK3a : u10.cell? ⟨w.heap.size, 0, none⟩ = some (.bool p) := K3.cell 0
    have zK3b : u10.cell? ⟨w.heap.size, 1, none⟩ = some (.string s) := K3.cell 1
    have zK3l : w.heap.size < u10.heap.size := K3.lt
    have zK4a : u10.cell? ⟨w.heap.size + 1, 0, none⟩ = some (.bool p) := K4.cell 0
    have zK4b : u10.cell? ⟨w.heap.size + 1, 1, none⟩ = some (.string s) := K4.cell 1
    have zK4l : w.heap.size + 1 < u10.heap.size := K4.lt
    replace K3 := K3.alloc (.cells #[.bool bP, .string tP] 37)
    replace K4 := K4.alloc (.cells #[.bool bP, .string tP] 37)
    replace K5 := K5.alloc (.cells #[.bool bP, .string tP] 37)
    replace K7 := K7.alloc (.cells #[.bool bP, .string tP] 37)
    replace K9 := K9.alloc (.cells #[.bool bP, .string tP] 37)
    replace K11 := K11.alloc (.cells #[.bool bP, .string tP] 37)
    replace K13 := K13.alloc (.cells #[.bool bP, .string tP] 37)
    replace K15 := K15.alloc (.cells #[.bool bP, .string tP] 37)
    replace K16 := K16.alloc (.cells #[.bool bP, .string tP] 37)
    have K17 := Bk.new u10 #[.bool bP, .string tP] 37
    replace HV := HV.alloc HV.size (.cells #[.bool bP, .string tP] 37)
    go_wp2_with fail
    refine (M2.out _).mono ?_
    rintro e u11 ⟨rfl, hb⟩
    replace K3 := K3.below hb
    replace K4 := K4.below hb
    replace K5 := K5.below hb
    replace K7 := K7.below hb
    replace K9 := K9.below hb
    replace K11 := K11.below hb
    replace K13 := K13.below hb
    replace K15 := K15.below hb
    replace K16 := K16.below hb
    replace K17 := K17.below hb
    replace HV := HV.trans (hb.mono HV.size)
    clear hb
    clear zK3a zK3b zK3l zK4a zK4b zK4l
    have zK3a : u11.cell? ⟨w.heap.size, 0, none⟩ = some (.bool p) := K3.cell 0
    have zK3b : u11.cell? ⟨w.heap.size, 1, none⟩ = some (.string s) := K3.cell 1
    have zK3l : w.heap.size < u11.heap.size := K3.lt
    have zK5a : u11.cell? ⟨w.heap.size + 1 + 1, 0, none⟩ = some (.bool o) := K5.cell 0
    have zK5b : u11.cell? ⟨w.heap.size + 1 + 1, 1, none⟩ = some (.string u) := K5.cell 1
    have zK5l : w.heap.size + 1 + 1 < u11.heap.size := K5.lt
    replace K3 := K3.alloc (.cells #[.bool bQ, .string tQ] 37)
    replace K4 := K4.alloc (.cells #[.bool bQ, .string tQ] 37)
    replace K5 := K5.alloc (.cells #[.bool bQ, .string tQ] 37)
    replace K7 := K7.alloc (.cells #[.bool bQ, .string tQ] 37)
    replace K9 := K9.alloc (.cells #[.bool bQ, .string tQ] 37)
    replace K11 := K11.alloc (.cells #[.bool bQ, .string tQ] 37)
    replace K13 := K13.alloc (.cells #[.bool bQ, .string tQ] 37)
    replace K15 := K15.alloc (.cells #[.bool bQ, .string tQ] 37)
    replace K16 := K16.alloc (.cells #[.bool bQ, .string tQ] 37)
    replace K17 := K17.alloc (.cells #[.bool bQ, .string tQ] 37)
    have K18 := Bk.new u11 #[.bool bQ, .string tQ] 37
    replace HV := HV.alloc HV.size (.cells #[.bool bQ, .string tQ] 37)
    go_wp2_with fail
    refine (M3.out _).mono ?_
    rintro e u12 ⟨rfl, hb⟩
    replace K3 := K3.below hb
    replace K4 := K4.below hb
    replace K5 := K5.below hb
    replace K7 := K7.below hb
    replace K9 := K9.below hb
    replace K11 := K11.below hb
    replace K13 := K13.below hb
    replace K15 := K15.below hb
    replace K16 := K16.below hb
    replace K17 := K17.below hb
    replace K18 := K18.below hb
    replace HV := HV.trans (hb.mono HV.size)
    clear hb
    clear zK3a zK3b zK3l zK5a zK5b zK5l
    have zK18a : u12.cell? ⟨u11.heap.size, 0, none⟩ = some (.bool bQ) := K18.cell 0
    have zK18b : u12.cell? ⟨u11.heap.size, 1, none⟩ = some (.string tQ) := K18.cell 1
    have zK18l : u11.heap.size < u12.heap.size := K18.lt
    replace K3 := K3.alloc (.cells #[.bool bR, .string tR] 37)
    replace K4 := K4.alloc (.cells #[.bool bR, .string tR] 37)
    replace K5 := K5.alloc (.cells #[.bool bR, .string tR] 37)
    replace K7 := K7.alloc (.cells #[.bool bR, .string tR] 37)
    replace K9 := K9.alloc (.cells #[.bool bR, .string tR] 37)
    replace K11 := K11.alloc (.cells #[.bool bR, .string tR] 37)
    replace K13 := K13.alloc (.cells #[.bool bR, .string tR] 37)
    replace K15 := K15.alloc (.cells #[.bool bR, .string tR] 37)
    replace K16 := K16.alloc (.cells #[.bool bR, .string tR] 37)
    replace K17 := K17.alloc (.cells #[.bool bR, .string tR] 37)
    replace K18 := K18.alloc (.cells #[.bool bR, .string tR] 37)
    have K19 := Bk.new u12 #[.bool bR, .string tR] 37
    replace HV := HV.alloc HV.size (.cells #[.bool bR, .string tR] 37)
    go_wp2_with fail
    refine (A7.out _).mono ?_
    rintro e u13 ⟨rfl, hb⟩
    replace K3 := K3.below hb
    replace K4 := K4.below hb
    replace K5 := K5.below hb
    replace K7 := K7.below hb
    replace K9 := K9.below hb
    replace K11 := K11.below hb
    replace K13 := K13.below hb
    replace K15 := K15.below hb
    replace K16 := K16.below hb
    replace K17 := K17.below hb
    replace K18 := K18.below hb
    replace K19 := K19.below hb
    replace HV := HV.trans (hb.mono HV.size)
    clear hb
    clear zK18a zK18b zK18l
    have zK4a : u13.cell? ⟨w.heap.size + 1, 0, none⟩ = some (.bool p) := K4.cell 0
    have zK4b : u13.cell? ⟨w.heap.size + 1, 1, none⟩ = some (.string s) := K4.cell 1
    have zK4l : w.heap.size + 1 < u13.heap.size := K4.lt
    have zK3a : u13.cell? ⟨w.heap.size, 0, none⟩ = some (.bool p) := K3.cell 0
    have zK3b : u13.cell? ⟨w.heap.size, 1, none⟩ = some (.string s) := K3.cell 1
    have zK3l : w.heap.size < u13.heap.size := K3.lt
    replace K3 := K3.alloc (.cells #[.bool bP, .string tP] 37)
    replace K4 := K4.alloc (.cells #[.bool bP, .string tP] 37)
    replace K5 := K5.alloc (.cells #[.bool bP, .string tP] 37)
    replace K7 := K7.alloc (.cells #[.bool bP, .string tP] 37)
    replace K9 := K9.alloc (.cells #[.bool bP, .string tP] 37)
    replace K11 := K11.alloc (.cells #[.bool bP, .string tP] 37)
    replace K13 := K13.alloc (.cells #[.bool bP, .string tP] 37)
    replace K15 := K15.alloc (.cells #[.bool bP, .string tP] 37)
    replace K16 := K16.alloc (.cells #[.bool bP, .string tP] 37)
    replace K17 := K17.alloc (.cells #[.bool bP, .string tP] 37)
    replace K18 := K18.alloc (.cells #[.bool bP, .string tP] 37)
    replace K19 := K19.alloc (.cells #[.bool bP, .string tP] 37)
    have K21 := Bk.new u13 #[.bool bP, .string tP] 37
    replace HV := HV.alloc HV.size (.cells #[.bool bP, .string tP] 37)
    go_wp2_with fail
    refine (M4.out _).mono ?_
    rintro e u14 ⟨rfl, hb⟩
    replace K3 := K3.below hb
    replace K4 := K4.below hb
    replace K5 := K5.below hb
    replace K7 := K7.below hb
    replace K9 := K9.below hb
    replace K11 := K11.below hb
    replace K13 := K13.below hb
    replace K15 := K15.below hb
    replace K16 := K16.below hb
    replace K17 := K17.below hb
    replace K18 := K18.below hb
    replace K19 := K19.below hb
    replace K21 := K21.below hb
    replace HV := HV.trans (hb.mono HV.size)
    clear hb
    clear zK4a zK4b zK4l zK3a zK3b zK3l
    have zK3a : u14.cell? ⟨w.heap.size, 0, none⟩ = some (.bool p) := K3.cell 0
    have zK3b : u14.cell? ⟨w.heap.size, 1, none⟩ = some (.string s) := K3.cell 1
    have zK3l : w.heap.size < u14.heap.size := K3.lt
    have zK4a : u14.cell? ⟨w.heap.size + 1, 0, none⟩ = some (.bool p) := K4.cell 0
    have zK4b : u14.cell? ⟨w.heap.size + 1, 1, none⟩ = some (.string s) := K4.cell 1
    have zK4l : w.heap.size + 1 < u14.heap.size := K4.lt
    replace K3 := K3.alloc (.cells #[.bool bQ, .string tQ] 37)
    replace K4 := K4.alloc (.cells #[.bool bQ, .string tQ] 37)
    replace K5 := K5.alloc (.cells #[.bool bQ, .string tQ] 37)
    replace K7 := K7.alloc (.cells #[.bool bQ, .string tQ] 37)
    replace K9 := K9.alloc (.cells #[.bool bQ, .string tQ] 37)
    replace K11 := K11.alloc (.cells #[.bool bQ, .string tQ] 37)
    replace K13 := K13.alloc (.cells #[.bool bQ, .string tQ] 37)
    replace K15 := K15.alloc (.cells #[.bool bQ, .string tQ] 37)
    replace K16 := K16.alloc (.cells #[.bool bQ, .string tQ] 37)
    replace K17 := K17.alloc (.cells #[.bool bQ, .string tQ] 37)
    replace K18 := K18.alloc (.cells #[.bool bQ, .string tQ] 37)
    replace K19 := K19.alloc (.cells #[.bool bQ, .string tQ] 37)
    replace K21 := K21.alloc (.cells #[.bool bQ, .string tQ] 37)
    have K23 := Bk.new u14 #[.bool bQ, .string tQ] 37
    replace HV := HV.alloc HV.size (.cells #[.bool bQ, .string tQ] 37)
    go_wp2_with fail
    refine (S1.out _).mono ?_
    rintro e u15 ⟨rfl, hb⟩
    replace K3 := K3.below hb
    replace K4 := K4.below hb
    replace K5 := K5.below hb
    replace K7 := K7.below hb
    replace K9 := K9.below hb
    replace K11 := K11.below hb
    replace K13 := K13.below hb
    replace K15 := K15.below hb
    replace K16 := K16.below hb
    replace K17 := K17.below hb
    replace K18 := K18.below hb
    replace K19 := K19.below hb
    replace K21 := K21.below hb
    replace K23 := K23.below hb
    replace HV := HV.trans (hb.mono HV.size)
    clear hb
    clear zK3a zK3b zK3l zK4a zK4b zK4l
    have zK3a : u15.cell? ⟨w.heap.size, 0, none⟩ = some (.bool p) := K3.cell 0
    have zK3b : u15.cell? ⟨w.heap.size, 1, none⟩ = some (.string s) := K3.cell 1
    have zK3l : w.heap.size < u15.heap.size := K3.lt
    have zK4a : u15.cell? ⟨w.heap.size + 1, 0, none⟩ = some (.bool p) := K4.cell 0
    have zK4b : u15.cell? ⟨w.heap.size + 1, 1, none⟩ = some (.string s) := K4.cell 1
    have zK4l : w.heap.size + 1 < u15.heap.size := K4.lt
    replace K3 := K3.alloc (.cells #[.bool bD, .string tD] 37)
    replace K4 := K4.alloc (.cells #[.bool bD, .string tD] 37)
    replace K5 := K5.alloc (.cells #[.bool bD, .string tD] 37)
    replace K7 := K7.alloc (.cells #[.bool bD, .string tD] 37)
    replace K9 := K9.alloc (.cells #[.bool bD, .string tD] 37)
    replace K11 := K11.alloc (.cells #[.bool bD, .string tD] 37)
    replace K13 := K13.alloc (.cells #[.bool bD, .string tD] 37)
    replace K15 := K15.alloc (.cells #[.bool bD, .string tD] 37)
    replace K16 := K16.alloc (.cells #[.bool bD, .string tD] 37)
    replace K17 := K17.alloc (.cells #[.bool bD, .string tD] 37)
    replace K18 := K18.alloc (.cells #[.bool bD, .string tD] 37)
    replace K19 := K19.alloc (.cells #[.bool bD, .string tD] 37)
    replace K21 := K21.alloc (.cells #[.bool bD, .string tD] 37)
    replace K23 := K23.alloc (.cells #[.bool bD, .string tD] 37)
    have K25 := Bk.new u15 #[.bool bD, .string tD] 37
    replace HV := HV.alloc HV.size (.cells #[.bool bD, .string tD] 37)
    go_wp2_with fail
    refine (C1.out _).mono ?_
    rintro e u16 ⟨rfl, hb⟩
    replace K3 := K3.below hb
    replace K4 := K4.below hb
    replace K5 := K5.below hb
    replace K7 := K7.below hb
    replace K9 := K9.below hb
    replace K11 := K11.below hb
    replace K13 := K13.below hb
    replace K15 := K15.below hb
    replace K16 := K16.below hb
    replace K17 := K17.below hb
    replace K18 := K18.below hb
    replace K19 := K19.below hb
    replace K21 := K21.below hb
    replace K23 := K23.below hb
    replace K25 := K25.below hb
    replace HV := HV.trans (hb.mono HV.size)
    clear hb
    clear zK3a zK3b zK3l zK4a zK4b zK4l
    go_upto_region 20 with fail
    obtain ⟨C, hC0, k15, k16, k17, k21, k18, k23, k4, k3, k25, k7, k11, k5, kv, hm⟩ : ∃ C : World → Prop, C u16.drew ∧ (∀ w', C w' → Bk w' (u8.heap.size) #[.bool bS, .string tS] 37) ∧ (∀ w', C w' → Bk w' (u9.heap.size) #[.bool bS, .string tS] 37) ∧ (∀ w', C w' → Bk w' (u10.heap.size) #[.bool bP, .string tP] 37) ∧ (∀ w', C w' → Bk w' (u13.heap.size) #[.bool bP, .string tP] 37) ∧ (∀ w', C w' → Bk w' (u11.heap.size) #[.bool bQ, .string tQ] 37) ∧ (∀ w', C w' → Bk w' (u14.heap.size) #[.bool bQ, .string tQ] 37) ∧ (∀ w', C w' → Bk w' (w.heap.size + 1) #[.bool p, .string s] 37) ∧ (∀ w', C w' → Bk w' (w.heap.size) #[.bool p, .string s] 37) ∧ (∀ w', C w' → Bk w' (u15.heap.size) #[.bool bD, .string tD] 37) ∧ (∀ w', C w' → Bk w' (u4.heap.size) #[.bool bAB, .string tAB] 37) ∧ (∀ w', C w' → Bk w' (u6.heap.size) #[.bool bBC, .string tBC] 37) ∧ (∀ w', C w' → Bk w' (w.heap.size + 1 + 1) #[.bool o, .string u] 37) ∧ (∀ w', C w' → Below w.heap.size w w') ∧ (∀ w' w'', C w' → Below w'.heap.size w' w'' → C w'') :=
      ⟨fun w' => Bk w' (u8.heap.size) #[.bool bS, .string tS] 37 ∧ Bk w' (u9.heap.size) #[.bool bS, .string tS] 37 ∧ Bk w' (u10.heap.size) #[.bool bP, .string tP] 37 ∧ Bk w' (u13.heap.size) #[.bool bP, .string tP] 37 ∧ Bk w' (u11.heap.size) #[.bool bQ, .string tQ] 37 ∧ Bk w' (u14.heap.size) #[.bool bQ, .string tQ] 37 ∧ Bk w' (w.heap.size + 1) #[.bool p, .string s] 37 ∧ Bk w' (w.heap.size) #[.bool p, .string s] 37 ∧ Bk w' (u15.heap.size) #[.bool bD, .string tD] 37 ∧ Bk w' (u4.heap.size) #[.bool bAB, .string tAB] 37 ∧ Bk w' (u6.heap.size) #[.bool bBC, .string tBC] 37 ∧ Bk w' (w.heap.size + 1 + 1) #[.bool o, .string u] 37 ∧ Below w.heap.size w w', ⟨K15.drew, K16.drew, K17.drew, K21.drew, K18.drew, K23.drew, K4.drew, K3.drew, K25.drew, K7.drew, K11.drew, K5.drew, HV.drew⟩, fun w' h => h.1, fun w' h => h.2.1, fun w' h => h.2.2.1, fun w' h => h.2.2.2.1, fun w' h => h.2.2.2.2.1, fun w' h => h.2.2.2.2.2.1, fun w' h => h.2.2.2.2.2.2.1, fun w' h => h.2.2.2.2.2.2.2.1, fun w' h => h.2.2.2.2.2.2.2.2.1, fun w' h => h.2.2.2.2.2.2.2.2.2.1, fun w' h => h.2.2.2.2.2.2.2.2.2.2.1, fun w' h => h.2.2.2.2.2.2.2.2.2.2.2.1, fun w' h => h.2.2.2.2.2.2.2.2.2.2.2.2, fun w' w'' h hb => ⟨(h.1).below hb, (h.2.1).below hb, (h.2.2.1).below hb, (h.2.2.2.1).below hb, (h.2.2.2.2.1).below hb, (h.2.2.2.2.2.1).below hb, (h.2.2.2.2.2.2.1).below hb, (h.2.2.2.2.2.2.2.1).below hb, (h.2.2.2.2.2.2.2.2.1).below hb, (h.2.2.2.2.2.2.2.2.2.1).below hb, (h.2.2.2.2.2.2.2.2.2.2.1).below hb, (h.2.2.2.2.2.2.2.2.2.2.2.1).below hb, (h.2.2.2.2.2.2.2.2.2.2.2.2).trans (hb.mono (h.2.2.2.2.2.2.2.2.2.2.2.2).size)⟩⟩
    refine wp_quietC (C := C) (by kernel_rfl) (by kernel_rfl) hC0 ?_
    go_big_quiet_want
    refine q_fake (.bool true) ?_ ?_
    · intro wx hx; exact at_call rfl (by kernel_rfl) (ent_awake _) (iawake_any wx) (fun w' hb => hm wx w' hx hb)
    go_big_quiet_op
    go_big_quiet_on
    go_big_quiet_want
    refine q_fake (.bool true) ?_ ?_
    · intro wx hx; exact at_move rfl (by kernel_rfl)
    go_big_quiet_op
    go_big_quiet_on
    go_big_quiet_want
    refine q_fake (.agg #[.bool bS, .string tS]) ?_ ?_
    · intro wx hx; exact at_loadI rfl (by kernel_rfl) (k15 wx hx)
    go_big_quiet_op
    go_big_quiet_on
    go_big_quiet_want
    refine q_fake (.agg #[.bool bS, .string tS]) ?_ ?_
    · intro wx hx; exact at_loadI rfl (by kernel_rfl) (k16 wx hx)
    go_big_quiet_op
    go_big_quiet_on
    go_big_quiet_want
    refine q_fake (.bool true) ?_ ?_
    · intro wx hx; exact at_same_eqlI (p := bS) (s := tS) rfl (by kernel_rfl) (by kernel_rfl)
    go_big_quiet_op
    go_big_quiet_on
    go_big_quiet_want
    refine q_fake (.bool true) ?_ ?_
    · intro wx hx; exact at_pick rfl (by kernel_rfl) (by kernel_rfl)
    go_big_quiet_op
    go_big_quiet_on
    go_big_quiet_want
    refine q_fake (.bool true) ?_ ?_
    · intro wx hx; exact at_move rfl (by kernel_rfl)
    go_big_quiet_op
    go_big_quiet_on
    go_big_quiet_want
    refine q_fake (.agg #[.bool bP, .string tP]) ?_ ?_
    · intro wx hx; exact at_loadI rfl (by kernel_rfl) (k17 wx hx)
    go_big_quiet_op
    go_big_quiet_on
    go_big_quiet_want
    refine q_fake (.agg #[.bool bP, .string tP]) ?_ ?_
    · intro wx hx; exact at_loadI rfl (by kernel_rfl) (k21 wx hx)
    go_big_quiet_op
    go_big_quiet_on
    go_big_quiet_want
    refine q_fake (.bool true) ?_ ?_
    · intro wx hx; exact at_same_eqlI (p := bP) (s := tP) rfl (by kernel_rfl) (by kernel_rfl)
    go_big_quiet_op
    go_big_quiet_on
    go_big_quiet_want
    refine q_fake (.bool true) ?_ ?_
    · intro wx hx; exact at_pick rfl (by kernel_rfl) (by kernel_rfl)
    go_big_quiet_op
    go_big_quiet_on
    go_big_quiet_want
    refine q_fake (.bool true) ?_ ?_
    · intro wx hx; exact at_move rfl (by kernel_rfl)
    go_big_quiet_op
    go_big_quiet_on
    go_big_quiet_want
    refine q_fake (.agg #[.bool bQ, .string tQ]) ?_ ?_
    · intro wx hx; exact at_loadI rfl (by kernel_rfl) (k18 wx hx)
    go_big_quiet_op
    go_big_quiet_on
    go_big_quiet_want
    refine q_fake (.agg #[.bool bQ, .string tQ]) ?_ ?_
    · intro wx hx; exact at_loadI rfl (by kernel_rfl) (k23 wx hx)
    go_big_quiet_op
    go_big_quiet_on
    go_big_quiet_want
    refine q_fake (.bool true) ?_ ?_
    · intro wx hx; exact at_same_eqlI (p := bQ) (s := tQ) rfl (by kernel_rfl) (by kernel_rfl)
    go_big_quiet_op
    go_big_quiet_on
    go_big_quiet_want
    refine q_fake (.bool true) ?_ ?_
    · intro wx hx; exact at_pick rfl (by kernel_rfl) (by kernel_rfl)
    go_big_quiet_op
    go_big_quiet_on
    go_big_quiet_want
    refine q_fake (.bool true) ?_ ?_
    · intro wx hx; exact at_move rfl (by kernel_rfl)
    go_big_quiet_op
    go_big_quiet_on
    go_big_quiet_want
    refine q_fake (.int .i64 (0)) ?_ ?_
    · intro wx hx; exact at_move rfl (by kernel_rfl)
    go_big_quiet_op
    go_big_quiet_on
    go_big_quiet_want
    refine q_fake (.agg #[.bool p, .string s]) ?_ ?_
    · intro wx hx; exact at_loadI rfl (by kernel_rfl) (k4 wx hx)
    go_big_quiet_op
    go_big_quiet_on
    go_big_quiet_want
    refine q_fake (.agg #[.bool p, .string s]) ?_ ?_
    · intro wx hx; exact at_loadI rfl (by kernel_rfl) (k3 wx hx)
    go_big_quiet_op
    go_big_quiet_on
    go_big_quiet_want
    refine q_fake (.int .i64 (-(0))) ?_ ?_
    · intro wx hx; exact at_call rfl (by kernel_rfl) (ent_cmp _) (C2.out wx) (fun w' hb => hm wx w' hx hb)
    go_big_quiet_op
    go_big_quiet_on
    go_big_quiet_want
    refine q_fake (.int .i64 (0)) ?_ ?_
    · intro wx hx; exact at_neg2 rfl (by kernel_rfl) n0 n1
    go_big_quiet_op
    go_big_quiet_on
    go_big_quiet_want
    refine q_fake (.bool true) ?_ ?_
    · intro wx hx; exact at_same_eqlN (i := 0) rfl (by kernel_rfl) (by kernel_rfl)
    go_big_quiet_op
    go_big_quiet_on
    go_big_quiet_want
    refine q_fake (.bool true) ?_ ?_
    · intro wx hx; exact at_pick rfl (by kernel_rfl) (by kernel_rfl)
    go_big_quiet_op
    go_big_quiet_on
    go_big_quiet_want
    refine q_fake (.bool true) ?_ ?_
    · intro wx hx; exact at_move rfl (by kernel_rfl)
    go_big_quiet_op
    go_big_quiet_on
    go_big_quiet_want
    refine q_fake (.int .i64 (0)) ?_ ?_
    · intro wx hx; exact at_move rfl (by kernel_rfl)
    go_big_quiet_op
    go_big_quiet_on
    go_big_quiet_want
    refine q_fake (.bool true) ?_ ?_
    · intro wx hx; exact at_same_eqlN (i := 0) rfl (by kernel_rfl) (by kernel_rfl)
    go_big_quiet_op
    go_big_quiet_on
    go_big_quiet_want
    refine q_fake (.agg #[.bool p, .string s]) ?_ ?_
    · intro wx hx; exact at_loadI rfl (by kernel_rfl) (k3 wx hx)
    go_big_quiet_op
    go_big_quiet_on
    go_big_quiet_want
    refine q_fake (.agg #[.bool p, .string s]) ?_ ?_
    · intro wx hx; exact at_loadI rfl (by kernel_rfl) (k4 wx hx)
    go_big_quiet_op
    go_big_quiet_on
    go_big_quiet_want
    refine q_fake (.bool true) ?_ ?_
    · intro wx hx; exact at_same_eqlI (p := p) (s := s) rfl (by kernel_rfl) (by kernel_rfl)
    go_big_quiet_op
    go_big_quiet_on
    go_big_quiet_want
    refine q_fake (.bool true) ?_ ?_
    · intro wx hx; exact at_eqlB (i := true) (j := true) rfl (by kernel_rfl) (by kernel_rfl)
    go_big_quiet_op
    go_big_quiet_on
    go_big_quiet_want
    refine q_fake (.bool true) ?_ ?_
    · intro wx hx; exact at_pick rfl (by kernel_rfl) (by kernel_rfl)
    go_big_quiet_op
    go_big_quiet_on
    go_big_quiet_want
    refine q_fake (.bool true) ?_ ?_
    · intro wx hx; exact at_move rfl (by kernel_rfl)
    go_big_quiet_op
    go_big_quiet_on
    go_big_quiet_want
    refine q_fake (.int .i64 (0)) ?_ ?_
    · intro wx hx; exact at_move rfl (by kernel_rfl)
    go_big_quiet_op
    go_big_quiet_on
    go_big_quiet_want
    refine q_fake (.agg #[.bool bD, .string tD]) ?_ ?_
    · intro wx hx; exact at_loadI rfl (by kernel_rfl) (k25 wx hx)
    go_big_quiet_op
    go_big_quiet_on
    go_big_quiet_want
    refine q_fake (.agg #[.bool bZ, .string tZ]) ?_ ?_
    · intro wx hx; exact at_call rfl (by kernel_rfl) (ent_of _) (O0.out wx) (fun w' hb => hm wx w' hx hb)
    go_big_quiet_op
    go_big_quiet_on
    go_big_quiet_want
    refine q_fake (.int .i64 (0)) ?_ ?_
    · intro wx hx; exact at_call rfl (by kernel_rfl) (ent_cmp _) (C3.out wx) (fun w' hb => hm wx w' hx hb)
    go_big_quiet_op
    go_big_quiet_on
    go_big_quiet_want
    refine q_fake (.bool true) ?_ ?_
    · intro wx hx; exact at_same_eqlN (i := 0) rfl (by kernel_rfl) (by kernel_rfl)
    go_big_quiet_op
    go_big_quiet_on
    go_big_quiet_want
    refine q_fake (.bool true) ?_ ?_
    · intro wx hx; exact at_pick rfl (by kernel_rfl) (by kernel_rfl)
    go_big_quiet_op
    go_big_quiet_on
    go_big_quiet_want
    refine q_fake (.bool true) ?_ ?_
    · intro wx hx; exact at_move rfl (by kernel_rfl)
    go_big_quiet_op
    go_big_quiet_on
    go_big_quiet_want
    refine q_fake (.agg #[.bool bAB, .string tAB]) ?_ ?_
    · intro wx hx; exact at_loadI rfl (by kernel_rfl) (k7 wx hx)
    go_big_quiet_op
    go_big_quiet_on
    go_big_quiet_want
    refine q_fake (.agg #[.bool bBC, .string tBC]) ?_ ?_
    · intro wx hx; exact at_loadI rfl (by kernel_rfl) (k11 wx hx)
    go_big_quiet_op
    go_big_quiet_on
    go_big_quiet_want
    refine q_fake (.int .i64 m) ?_ ?_
    · intro wx hx; exact at_call rfl (by kernel_rfl) (ent_cmp _) (C4.out wx) (fun w' hb => hm wx w' hx hb)
    go_big_quiet_op
    go_big_quiet_on
    go_big_quiet_want
    refine q_fake (.agg #[.bool p, .string s]) ?_ ?_
    · intro wx hx; exact at_loadI rfl (by kernel_rfl) (k3 wx hx)
    go_big_quiet_op
    go_big_quiet_on
    go_big_quiet_want
    refine q_fake (.agg #[.bool o, .string u]) ?_ ?_
    · intro wx hx; exact at_loadI rfl (by kernel_rfl) (k5 wx hx)
    go_big_quiet_op
    go_big_quiet_on
    go_big_quiet_want
    refine q_fake (.int .i64 m) ?_ ?_
    · intro wx hx; exact at_call rfl (by kernel_rfl) (ent_cmp _) (C5.out wx) (fun w' hb => hm wx w' hx hb)
    go_big_quiet_op
    go_big_quiet_on
    go_big_quiet_want
    refine q_fake (.bool true) ?_ ?_
    · intro wx hx; exact at_same_eqlN (i := m) rfl (by kernel_rfl) (by kernel_rfl)
    go_big_quiet_op
    go_big_quiet_on
    go_big_quiet_want
    refine q_fake (.bool true) ?_ ?_
    · intro wx hx; exact at_pick rfl (by kernel_rfl) (by kernel_rfl)
    go_big_quiet_op
    go_big_quiet_on
    go_big_quiet_want
    refine q_fake (.bool true) ?_ ?_
    · intro wx hx; exact at_assign rfl (by kernel_rfl)
    go_big_quiet_op
    go_big_quiet_on
    refine wpQuiet_nil ?_
    intro wz hz
    have HZ := kv wz hz
    clear hm kv k15 k16 k17 k21 k18 k23 k4 k3 k25 k7 k11 k5 hC0
    rename_i Kx hKx
    show Kx _ wz
    refine hKx _ wz ?_
    first | (go_wp2; go_ret; exact ⟨rfl, HZ⟩) | (show bodyPost Try.prog _ _ .ret _ wz; refine bodyPost_ret (v := .bool true) (by kernel_rfl) rfl ⟨rfl, HZ⟩)
  · have V1 := Lib.hid cV1
    have V2 := Lib.hid cV2
    have V3 := Lib.hid cV3
    have A1 := Lib.hid cA1
    have A2 := Lib.hid cA2
    have A3 := Lib.hid cA3
    have A4 := Lib.hid cA4
    have A5 := Lib.hid cA5
    have A6 := Lib.hid cA6
    have M1 := Lib.hid cM1
    have M2 := Lib.hid cM2
    have M3 := Lib.hid cM3
    have A7 := Lib.hid cA7
    have M4 := Lib.hid cM4
    have S1 := Lib.hid cS1
    have C1 := Lib.hid cC1
    have C2 := Lib.hid cC2
    have O0 := Lib.hid cO0
    have C3 := Lib.hid cC3
    have C4 := Lib.hid cC4
    have C5 := Lib.hid cC5
    clear cV1 cV2 cV3 cA1 cA2 cA3 cA4 cA5 cA6 cM1 cM2 cM3 cA7 cM4 cS1 cC1 cC2 cO0 cC3 cC4 cC5
    have K3 := ((Bk.new w #[.bool p, .string s] 37).alloc (.cells #[.bool q, .string t] 37)).alloc (.cells #[.bool o, .string u] 37)
    have K4 := (Bk.new1 w (.cells #[.bool p, .string s] 37) #[.bool q, .string t] 37).alloc (.cells #[.bool o, .string u] 37)
    have K5 := Bk.new1 (w.alloc (.cells #[.bool p, .string s] 37)) (.cells #[.bool q, .string t] 37) #[.bool o, .string u] 37
    rw [show (w.alloc (.cells #[.bool p, .string s] 37)).heap.size + 1 = w.heap.size + 1 + 1 from by simp] at K5
    have HV := (((Below.refl w.heap.size w).alloc (Nat.le_refl _) (.cells #[.bool p, .string s] 37)).alloc (by simp) (.cells #[.bool q, .string t] 37)).alloc (by simp; omega) (.cells #[.bool o, .string u] 37)
    go_enter Try.func11, Try.ntmps11
    go_wp2_with fail
    refine (V1.out _).mono ?_
    rintro e u1 ⟨rfl, hb⟩
    replace K3 := K3.below hb
    replace K4 := K4.below hb
    replace K5 := K5.below hb
    replace HV := HV.trans (hb.mono HV.size)
    clear hb
    have zK3a : u1.cell? ⟨w.heap.size, 0, none⟩ = some (.bool p) := K3.cell 0
    have zK3b : u1.cell? ⟨w.heap.size, 1, none⟩ = some (.string s) := K3.cell 1
    have zK3l : w.heap.size < u1.heap.size := K3.lt
    have zK4a : u1.cell? ⟨w.heap.size + 1, 0, none⟩ = some (.bool q) := K4.cell 0
    have zK4b : u1.cell? ⟨w.heap.size + 1, 1, none⟩ = some (.string t) := K4.cell 1
    have zK4l : w.heap.size + 1 < u1.heap.size := K4.lt
    have zK5a : u1.cell? ⟨w.heap.size + 1 + 1, 0, none⟩ = some (.bool o) := K5.cell 0
    have zK5b : u1.cell? ⟨w.heap.size + 1 + 1, 1, none⟩ = some (.string u) := K5.cell 1
    have zK5l : w.heap.size + 1 + 1 < u1.heap.size := K5.lt
    go_wp2_with fail
    refine (V2.out _).mono ?_
    rintro e u2 ⟨rfl, hb⟩
    replace K3 := K3.below hb
    replace K4 := K4.below hb
    replace K5 := K5.below hb
    replace HV := HV.trans (hb.mono HV.size)
    clear hb
    clear zK3a zK3b zK3l zK4a zK4b zK4l zK5a zK5b zK5l
    have zK3a : u2.cell? ⟨w.heap.size, 0, none⟩ = some (.bool p) := K3.cell 0
    have zK3b : u2.cell? ⟨w.heap.size, 1, none⟩ = some (.string s) := K3.cell 1
    have zK3l : w.heap.size < u2.heap.size := K3.lt
    have zK4a : u2.cell? ⟨w.heap.size + 1, 0, none⟩ = some (.bool q) := K4.cell 0
    have zK4b : u2.cell? ⟨w.heap.size + 1, 1, none⟩ = some (.string t) := K4.cell 1
    have zK4l : w.heap.size + 1 < u2.heap.size := K4.lt
    have zK5a : u2.cell? ⟨w.heap.size + 1 + 1, 0, none⟩ = some (.bool o) := K5.cell 0
    have zK5b : u2.cell? ⟨w.heap.size + 1 + 1, 1, none⟩ = some (.string u) := K5.cell 1
    have zK5l : w.heap.size + 1 + 1 < u2.heap.size := K5.lt
    go_wp2_with fail
    refine (V3.out _).mono ?_
    rintro e u3 ⟨rfl, hb⟩
    replace K3 := K3.below hb
    replace K4 := K4.below hb
    replace K5 := K5.below hb
    replace HV := HV.trans (hb.mono HV.size)
    clear hb
    clear zK3a zK3b zK3l zK4a zK4b zK4l zK5a zK5b zK5l
    have zK3a : u3.cell? ⟨w.heap.size, 0, none⟩ = some (.bool p) := K3.cell 0
    have zK3b : u3.cell? ⟨w.heap.size, 1, none⟩ = some (.string s) := K3.cell 1
    have zK3l : w.heap.size < u3.heap.size := K3.lt
    have zK4a : u3.cell? ⟨w.heap.size + 1, 0, none⟩ = some (.bool q) := K4.cell 0
    have zK4b : u3.cell? ⟨w.heap.size + 1, 1, none⟩ = some (.string t) := K4.cell 1
    have zK4l : w.heap.size + 1 < u3.heap.size := K4.lt
    have zK5a : u3.cell? ⟨w.heap.size + 1 + 1, 0, none⟩ = some (.bool o) := K5.cell 0
    have zK5b : u3.cell? ⟨w.heap.size + 1 + 1, 1, none⟩ = some (.string u) := K5.cell 1
    have zK5l : w.heap.size + 1 + 1 < u3.heap.size := K5.lt
    go_wp2_with fail
    refine (A1.out _).mono ?_
    rintro e u4 ⟨rfl, hb⟩
    replace K3 := K3.below hb
    replace K4 := K4.below hb
    replace K5 := K5.below hb
    replace HV := HV.trans (hb.mono HV.size)
    clear hb
    clear zK3a zK3b zK3l zK4a zK4b zK4l zK5a zK5b zK5l
    have zK3a : u4.cell? ⟨w.heap.size, 0, none⟩ = some (.bool p) := K3.cell 0
    have zK3b : u4.cell? ⟨w.heap.size, 1, none⟩ = some (.string s) := K3.cell 1
    have zK3l : w.heap.size < u4.heap.size := K3.lt
    have zK4a : u4.cell? ⟨w.heap.size + 1, 0, none⟩ = some (.bool q) := K4.cell 0
    have zK4b : u4.cell? ⟨w.heap.size + 1, 1, none⟩ = some (.string t) := K4.cell 1
    have zK4l : w.heap.size + 1 < u4.heap.size := K4.lt
    replace K3 := K3.alloc (.cells #[.bool bAB, .string tAB] 37)
    replace K4 := K4.alloc (.cells #[.bool bAB, .string tAB] 37)
    replace K5 := K5.alloc (.cells #[.bool bAB, .string tAB] 37)
    have K7 := Bk.new u4 #[.bool bAB, .string tAB] 37
    replace HV := HV.alloc HV.size (.cells #[.bool bAB, .string tAB] 37)
    go_wp2_with fail
    refine (A2.out _).mono ?_
    rintro e u5 ⟨rfl, hb⟩
    replace K3 := K3.below hb
    replace K4 := K4.below hb
    replace K5 := K5.below hb
    replace K7 := K7.below hb
    replace HV := HV.trans (hb.mono HV.size)
    clear hb
    clear zK3a zK3b zK3l zK4a zK4b zK4l
    have zK4a : u5.cell? ⟨w.heap.size + 1, 0, none⟩ = some (.bool q) := K4.cell 0
    have zK4b : u5.cell? ⟨w.heap.size + 1, 1, none⟩ = some (.string t) := K4.cell 1
    have zK4l : w.heap.size + 1 < u5.heap.size := K4.lt
    have zK5a : u5.cell? ⟨w.heap.size + 1 + 1, 0, none⟩ = some (.bool o) := K5.cell 0
    have zK5b : u5.cell? ⟨w.heap.size + 1 + 1, 1, none⟩ = some (.string u) := K5.cell 1
    have zK5l : w.heap.size + 1 + 1 < u5.heap.size := K5.lt
    replace K3 := K3.alloc (.cells #[.bool bAB, .string tAB] 37)
    replace K4 := K4.alloc (.cells #[.bool bAB, .string tAB] 37)
    replace K5 := K5.alloc (.cells #[.bool bAB, .string tAB] 37)
    replace K7 := K7.alloc (.cells #[.bool bAB, .string tAB] 37)
    have K9 := Bk.new u5 #[.bool bAB, .string tAB] 37
    replace HV := HV.alloc HV.size (.cells #[.bool bAB, .string tAB] 37)
    go_wp2_with fail
    refine (A3.out _).mono ?_
    rintro e u6 ⟨rfl, hb⟩
    replace K3 := K3.below hb
    replace K4 := K4.below hb
    replace K5 := K5.below hb
    replace K7 := K7.below hb
    replace K9 := K9.below hb
    replace HV := HV.trans (hb.mono HV.size)
    clear hb
    clear zK4a zK4b zK4l zK5a zK5b zK5l
    have zK7a : u6.cell? ⟨u4.heap.size, 0, none⟩ = some (.bool bAB) := K7.cell 0
    have zK7b : u6.cell? ⟨u4.heap.size, 1, none⟩ = some (.string tAB) := K7.cell 1
    have zK7l : u4.heap.size < u6.heap.size := K7.lt
    have zK4a : u6.cell? ⟨w.heap.size + 1, 0, none⟩ = some (.bool q) := K4.cell 0
    have zK4b : u6.cell? ⟨w.heap.size + 1, 1, none⟩ = some (.string t) := K4.cell 1
    have zK4l : w.heap.size + 1 < u6.heap.size := K4.lt
    replace K3 := K3.alloc (.cells #[.bool bBC, .string tBC] 37)
    replace K4 := K4.alloc (.cells #[.bool bBC, .string tBC] 37)
    replace K5 := K5.alloc (.cells #[.bool bBC, .string tBC] 37)
    replace K7 := K7.alloc (.cells #[.bool bBC, .string tBC] 37)
    replace K9 := K9.alloc (.cells #[.bool bBC, .string tBC] 37)
    have K11 := Bk.new u6 #[.bool bBC, .string tBC] 37
    replace HV := HV.alloc HV.size (.cells #[.bool bBC, .string tBC] 37)
    go_wp2_with fail
    refine (A4.out _).mono ?_
    rintro e u7 ⟨rfl, hb⟩
    replace K3 := K3.below hb
    replace K4 := K4.below hb
    replace K5 := K5.below hb
    replace K7 := K7.below hb
    replace K9 := K9.below hb
    replace K11 := K11.below hb
    replace HV := HV.trans (hb.mono HV.size)
    clear hb
    clear zK7a zK7b zK7l zK4a zK4b zK4l
    have zK7a : u7.cell? ⟨u4.heap.size, 0, none⟩ = some (.bool bAB) := K7.cell 0
    have zK7b : u7.cell? ⟨u4.heap.size, 1, none⟩ = some (.string tAB) := K7.cell 1
    have zK7l : u4.heap.size < u7.heap.size := K7.lt
    have zK9a : u7.cell? ⟨u5.heap.size, 0, none⟩ = some (.bool bAB) := K9.cell 0
    have zK9b : u7.cell? ⟨u5.heap.size, 1, none⟩ = some (.string tAB) := K9.cell 1
    have zK9l : u5.heap.size < u7.heap.size := K9.lt
    have zK3a : u7.cell? ⟨w.heap.size, 0, none⟩ = some (.bool p) := K3.cell 0
    have zK3b : u7.cell? ⟨w.heap.size, 1, none⟩ = some (.string s) := K3.cell 1
    have zK3l : w.heap.size < u7.heap.size := K3.lt
    have zK5a : u7.cell? ⟨w.heap.size + 1 + 1, 0, none⟩ = some (.bool o) := K5.cell 0
    have zK5b : u7.cell? ⟨w.heap.size + 1 + 1, 1, none⟩ = some (.string u) := K5.cell 1
    have zK5l : w.heap.size + 1 + 1 < u7.heap.size := K5.lt
    replace K3 := K3.alloc (.cells #[.bool p, .string s] 37)
    replace K4 := K4.alloc (.cells #[.bool p, .string s] 37)
    replace K5 := K5.alloc (.cells #[.bool p, .string s] 37)
    replace K7 := K7.alloc (.cells #[.bool p, .string s] 37)
    replace K9 := K9.alloc (.cells #[.bool p, .string s] 37)
    replace K11 := K11.alloc (.cells #[.bool p, .string s] 37)
    have K13 := Bk.new u7 #[.bool p, .string s] 37
    replace HV := HV.alloc HV.size (.cells #[.bool p, .string s] 37)
    go_wp2_with fail
    refine (A5.out _).mono ?_
    rintro e u8 ⟨rfl, hb⟩
    replace K3 := K3.below hb
    replace K4 := K4.below hb
    replace K5 := K5.below hb
    replace K7 := K7.below hb
    replace K9 := K9.below hb
    replace K11 := K11.below hb
    replace K13 := K13.below hb
    replace HV := HV.trans (hb.mono HV.size)
    clear hb
    clear zK7a zK7b zK7l zK9a zK9b zK9l zK3a zK3b zK3l zK5a zK5b zK5l
    have zK3a : u8.cell? ⟨w.heap.size, 0, none⟩ = some (.bool p) := K3.cell 0
    have zK3b : u8.cell? ⟨w.heap.size, 1, none⟩ = some (.string s) := K3.cell 1
    have zK3l : w.heap.size < u8.heap.size := K3.lt
    have zK11a : u8.cell? ⟨u6.heap.size, 0, none⟩ = some (.bool bBC) := K11.cell 0
    have zK11b : u8.cell? ⟨u6.heap.size, 1, none⟩ = some (.string tBC) := K11.cell 1
    have zK11l : u6.heap.size < u8.heap.size := K11.lt
    replace K3 := K3.alloc (.cells #[.bool bS, .string tS] 37)
    replace K4 := K4.alloc (.cells #[.bool bS, .string tS] 37)
    replace K5 := K5.alloc (.cells #[.bool bS, .string tS] 37)
    replace K7 := K7.alloc (.cells #[.bool bS, .string tS] 37)
    replace K9 := K9.alloc (.cells #[.bool bS, .string tS] 37)
    replace K11 := K11.alloc (.cells #[.bool bS, .string tS] 37)
    replace K13 := K13.alloc (.cells #[.bool bS, .string tS] 37)
    have K15 := Bk.new u8 #[.bool bS, .string tS] 37
    replace HV := HV.alloc HV.size (.cells #[.bool bS, .string tS] 37)
    go_wp2_with fail
    refine (A6.out _).mono ?_
    rintro e u9 ⟨rfl, hb⟩
    replace K3 := K3.below hb
    replace K4 := K4.below hb
    replace K5 := K5.below hb
    replace K7 := K7.below hb
    replace K9 := K9.below hb
    replace K11 := K11.below hb
    replace K13 := K13.below hb
    replace K15 := K15.below hb
    replace HV := HV.trans (hb.mono HV.size)
    clear hb
    clear zK3a zK3b zK3l zK11a zK11b zK11l
    have zK3a : u9.cell? ⟨w.heap.size, 0, none⟩ = some (.bool p) := K3.cell 0
    have zK3b : u9.cell? ⟨w.heap.size, 1, none⟩ = some (.string s) := K3.cell 1
    have zK3l : w.heap.size < u9.heap.size := K3.lt
    have zK11a : u9.cell? ⟨u6.heap.size, 0, none⟩ = some (.bool bBC) := K11.cell 0
    have zK11b : u9.cell? ⟨u6.heap.size, 1, none⟩ = some (.string tBC) := K11.cell 1
    have zK11l : u6.heap.size < u9.heap.size := K11.lt
    replace K3 := K3.alloc (.cells #[.bool bS, .string tS] 37)
    replace K4 := K4.alloc (.cells #[.bool bS, .string tS] 37)
    replace K5 := K5.alloc (.cells #[.bool bS, .string tS] 37)
    replace K7 := K7.alloc (.cells #[.bool bS, .string tS] 37)
    replace K9 := K9.alloc (.cells #[.bool bS, .string tS] 37)
    replace K11 := K11.alloc (.cells #[.bool bS, .string tS] 37)
    replace K13 := K13.alloc (.cells #[.bool bS, .string tS] 37)
    replace K15 := K15.alloc (.cells #[.bool bS, .string tS] 37)
    have K16 := Bk.new u9 #[.bool bS, .string tS] 37
    replace HV := HV.alloc HV.size (.cells #[.bool bS, .string tS] 37)
    go_wp2_with fail
    refine (M1.out _).mono ?_
    rintro e u10 ⟨rfl, hb⟩
    replace K3 := K3.below hb
    replace K4 := K4.below hb
    replace K5 := K5.below hb
    replace K7 := K7.below hb
    replace K9 := K9.below hb
    replace K11 := K11.below hb
    replace K13 := K13.below hb
    replace K15 := K15.below hb
    replace K16 := K16.below hb
    replace HV := HV.trans (hb.mono HV.size)
    clear hb
    clear zK3a zK3b zK3l zK11a zK11b zK11l
    have zK3a : u10.cell? ⟨w.heap.size, 0, none⟩ = some (.bool p) := K3.cell 0
    have zK3b : u10.cell? ⟨w.heap.size, 1, none⟩ = some (.string s) := K3.cell 1
    have zK3l : w.heap.size < u10.heap.size := K3.lt
    have zK4a : u10.cell? ⟨w.heap.size + 1, 0, none⟩ = some (.bool q) := K4.cell 0
    have zK4b : u10.cell? ⟨w.heap.size + 1, 1, none⟩ = some (.string t) := K4.cell 1
    have zK4l : w.heap.size + 1 < u10.heap.size := K4.lt
    replace K3 := K3.alloc (.cells #[.bool bP, .string tP] 37)
    replace K4 := K4.alloc (.cells #[.bool bP, .string tP] 37)
    replace K5 := K5.alloc (.cells #[.bool bP, .string tP] 37)
    replace K7 := K7.alloc (.cells #[.bool bP, .string tP] 37)
    replace K9 := K9.alloc (.cells #[.bool bP, .string tP] 37)
    replace K11 := K11.alloc (.cells #[.bool bP, .string tP] 37)
    replace K13 := K13.alloc (.cells #[.bool bP, .string tP] 37)
    replace K15 := K15.alloc (.cells #[.bool bP, .string tP] 37)
    replace K16 := K16.alloc (.cells #[.bool bP, .string tP] 37)
    have K17 := Bk.new u10 #[.bool bP, .string tP] 37
    replace HV := HV.alloc HV.size (.cells #[.bool bP, .string tP] 37)
    go_wp2_with fail
    refine (M2.out _).mono ?_
    rintro e u11 ⟨rfl, hb⟩
    replace K3 := K3.below hb
    replace K4 := K4.below hb
    replace K5 := K5.below hb
    replace K7 := K7.below hb
    replace K9 := K9.below hb
    replace K11 := K11.below hb
    replace K13 := K13.below hb
    replace K15 := K15.below hb
    replace K16 := K16.below hb
    replace K17 := K17.below hb
    replace HV := HV.trans (hb.mono HV.size)
    clear hb
    clear zK3a zK3b zK3l zK4a zK4b zK4l
    have zK3a : u11.cell? ⟨w.heap.size, 0, none⟩ = some (.bool p) := K3.cell 0
    have zK3b : u11.cell? ⟨w.heap.size, 1, none⟩ = some (.string s) := K3.cell 1
    have zK3l : w.heap.size < u11.heap.size := K3.lt
    have zK5a : u11.cell? ⟨w.heap.size + 1 + 1, 0, none⟩ = some (.bool o) := K5.cell 0
    have zK5b : u11.cell? ⟨w.heap.size + 1 + 1, 1, none⟩ = some (.string u) := K5.cell 1
    have zK5l : w.heap.size + 1 + 1 < u11.heap.size := K5.lt
    replace K3 := K3.alloc (.cells #[.bool bQ, .string tQ] 37)
    replace K4 := K4.alloc (.cells #[.bool bQ, .string tQ] 37)
    replace K5 := K5.alloc (.cells #[.bool bQ, .string tQ] 37)
    replace K7 := K7.alloc (.cells #[.bool bQ, .string tQ] 37)
    replace K9 := K9.alloc (.cells #[.bool bQ, .string tQ] 37)
    replace K11 := K11.alloc (.cells #[.bool bQ, .string tQ] 37)
    replace K13 := K13.alloc (.cells #[.bool bQ, .string tQ] 37)
    replace K15 := K15.alloc (.cells #[.bool bQ, .string tQ] 37)
    replace K16 := K16.alloc (.cells #[.bool bQ, .string tQ] 37)
    replace K17 := K17.alloc (.cells #[.bool bQ, .string tQ] 37)
    have K18 := Bk.new u11 #[.bool bQ, .string tQ] 37
    replace HV := HV.alloc HV.size (.cells #[.bool bQ, .string tQ] 37)
    go_wp2_with fail
    refine (M3.out _).mono ?_
    rintro e u12 ⟨rfl, hb⟩
    replace K3 := K3.below hb
    replace K4 := K4.below hb
    replace K5 := K5.below hb
    replace K7 := K7.below hb
    replace K9 := K9.below hb
    replace K11 := K11.below hb
    replace K13 := K13.below hb
    replace K15 := K15.below hb
    replace K16 := K16.below hb
    replace K17 := K17.below hb
    replace K18 := K18.below hb
    replace HV := HV.trans (hb.mono HV.size)
    clear hb
    clear zK3a zK3b zK3l zK5a zK5b zK5l
    have zK18a : u12.cell? ⟨u11.heap.size, 0, none⟩ = some (.bool bQ) := K18.cell 0
    have zK18b : u12.cell? ⟨u11.heap.size, 1, none⟩ = some (.string tQ) := K18.cell 1
    have zK18l : u11.heap.size < u12.heap.size := K18.lt
    replace K3 := K3.alloc (.cells #[.bool bR, .string tR] 37)
    replace K4 := K4.alloc (.cells #[.bool bR, .string tR] 37)
    replace K5 := K5.alloc (.cells #[.bool bR, .string tR] 37)
    replace K7 := K7.alloc (.cells #[.bool bR, .string tR] 37)
    replace K9 := K9.alloc (.cells #[.bool bR, .string tR] 37)
    replace K11 := K11.alloc (.cells #[.bool bR, .string tR] 37)
    replace K13 := K13.alloc (.cells #[.bool bR, .string tR] 37)
    replace K15 := K15.alloc (.cells #[.bool bR, .string tR] 37)
    replace K16 := K16.alloc (.cells #[.bool bR, .string tR] 37)
    replace K17 := K17.alloc (.cells #[.bool bR, .string tR] 37)
    replace K18 := K18.alloc (.cells #[.bool bR, .string tR] 37)
    have K19 := Bk.new u12 #[.bool bR, .string tR] 37
    replace HV := HV.alloc HV.size (.cells #[.bool bR, .string tR] 37)
    go_wp2_with fail
    refine (A7.out _).mono ?_
    rintro e u13 ⟨rfl, hb⟩
    replace K3 := K3.below hb
    replace K4 := K4.below hb
    replace K5 := K5.below hb
    replace K7 := K7.below hb
    replace K9 := K9.below hb
    replace K11 := K11.below hb
    replace K13 := K13.below hb
    replace K15 := K15.below hb
    replace K16 := K16.below hb
    replace K17 := K17.below hb
    replace K18 := K18.below hb
    replace K19 := K19.below hb
    replace HV := HV.trans (hb.mono HV.size)
    clear hb
    clear zK18a zK18b zK18l
    have zK4a : u13.cell? ⟨w.heap.size + 1, 0, none⟩ = some (.bool q) := K4.cell 0
    have zK4b : u13.cell? ⟨w.heap.size + 1, 1, none⟩ = some (.string t) := K4.cell 1
    have zK4l : w.heap.size + 1 < u13.heap.size := K4.lt
    have zK3a : u13.cell? ⟨w.heap.size, 0, none⟩ = some (.bool p) := K3.cell 0
    have zK3b : u13.cell? ⟨w.heap.size, 1, none⟩ = some (.string s) := K3.cell 1
    have zK3l : w.heap.size < u13.heap.size := K3.lt
    replace K3 := K3.alloc (.cells #[.bool bP, .string tP] 37)
    replace K4 := K4.alloc (.cells #[.bool bP, .string tP] 37)
    replace K5 := K5.alloc (.cells #[.bool bP, .string tP] 37)
    replace K7 := K7.alloc (.cells #[.bool bP, .string tP] 37)
    replace K9 := K9.alloc (.cells #[.bool bP, .string tP] 37)
    replace K11 := K11.alloc (.cells #[.bool bP, .string tP] 37)
    replace K13 := K13.alloc (.cells #[.bool bP, .string tP] 37)
    replace K15 := K15.alloc (.cells #[.bool bP, .string tP] 37)
    replace K16 := K16.alloc (.cells #[.bool bP, .string tP] 37)
    replace K17 := K17.alloc (.cells #[.bool bP, .string tP] 37)
    replace K18 := K18.alloc (.cells #[.bool bP, .string tP] 37)
    replace K19 := K19.alloc (.cells #[.bool bP, .string tP] 37)
    have K21 := Bk.new u13 #[.bool bP, .string tP] 37
    replace HV := HV.alloc HV.size (.cells #[.bool bP, .string tP] 37)
    go_wp2_with fail
    refine (M4.out _).mono ?_
    rintro e u14 ⟨rfl, hb⟩
    replace K3 := K3.below hb
    replace K4 := K4.below hb
    replace K5 := K5.below hb
    replace K7 := K7.below hb
    replace K9 := K9.below hb
    replace K11 := K11.below hb
    replace K13 := K13.below hb
    replace K15 := K15.below hb
    replace K16 := K16.below hb
    replace K17 := K17.below hb
    replace K18 := K18.below hb
    replace K19 := K19.below hb
    replace K21 := K21.below hb
    replace HV := HV.trans (hb.mono HV.size)
    clear hb
    clear zK4a zK4b zK4l zK3a zK3b zK3l
    have zK3a : u14.cell? ⟨w.heap.size, 0, none⟩ = some (.bool p) := K3.cell 0
    have zK3b : u14.cell? ⟨w.heap.size, 1, none⟩ = some (.string s) := K3.cell 1
    have zK3l : w.heap.size < u14.heap.size := K3.lt
    have zK4a : u14.cell? ⟨w.heap.size + 1, 0, none⟩ = some (.bool q) := K4.cell 0
    have zK4b : u14.cell? ⟨w.heap.size + 1, 1, none⟩ = some (.string t) := K4.cell 1
    have zK4l : w.heap.size + 1 < u14.heap.size := K4.lt
    replace K3 := K3.alloc (.cells #[.bool bQ, .string tQ] 37)
    replace K4 := K4.alloc (.cells #[.bool bQ, .string tQ] 37)
    replace K5 := K5.alloc (.cells #[.bool bQ, .string tQ] 37)
    replace K7 := K7.alloc (.cells #[.bool bQ, .string tQ] 37)
    replace K9 := K9.alloc (.cells #[.bool bQ, .string tQ] 37)
    replace K11 := K11.alloc (.cells #[.bool bQ, .string tQ] 37)
    replace K13 := K13.alloc (.cells #[.bool bQ, .string tQ] 37)
    replace K15 := K15.alloc (.cells #[.bool bQ, .string tQ] 37)
    replace K16 := K16.alloc (.cells #[.bool bQ, .string tQ] 37)
    replace K17 := K17.alloc (.cells #[.bool bQ, .string tQ] 37)
    replace K18 := K18.alloc (.cells #[.bool bQ, .string tQ] 37)
    replace K19 := K19.alloc (.cells #[.bool bQ, .string tQ] 37)
    replace K21 := K21.alloc (.cells #[.bool bQ, .string tQ] 37)
    have K23 := Bk.new u14 #[.bool bQ, .string tQ] 37
    replace HV := HV.alloc HV.size (.cells #[.bool bQ, .string tQ] 37)
    go_wp2_with fail
    refine (S1.out _).mono ?_
    rintro e u15 ⟨rfl, hb⟩
    replace K3 := K3.below hb
    replace K4 := K4.below hb
    replace K5 := K5.below hb
    replace K7 := K7.below hb
    replace K9 := K9.below hb
    replace K11 := K11.below hb
    replace K13 := K13.below hb
    replace K15 := K15.below hb
    replace K16 := K16.below hb
    replace K17 := K17.below hb
    replace K18 := K18.below hb
    replace K19 := K19.below hb
    replace K21 := K21.below hb
    replace K23 := K23.below hb
    replace HV := HV.trans (hb.mono HV.size)
    clear hb
    clear zK3a zK3b zK3l zK4a zK4b zK4l
    have zK3a : u15.cell? ⟨w.heap.size, 0, none⟩ = some (.bool p) := K3.cell 0
    have zK3b : u15.cell? ⟨w.heap.size, 1, none⟩ = some (.string s) := K3.cell 1
    have zK3l : w.heap.size < u15.heap.size := K3.lt
    have zK4a : u15.cell? ⟨w.heap.size + 1, 0, none⟩ = some (.bool q) := K4.cell 0
    have zK4b : u15.cell? ⟨w.heap.size + 1, 1, none⟩ = some (.string t) := K4.cell 1
    have zK4l : w.heap.size + 1 < u15.heap.size := K4.lt
    replace K3 := K3.alloc (.cells #[.bool bD, .string tD] 37)
    replace K4 := K4.alloc (.cells #[.bool bD, .string tD] 37)
    replace K5 := K5.alloc (.cells #[.bool bD, .string tD] 37)
    replace K7 := K7.alloc (.cells #[.bool bD, .string tD] 37)
    replace K9 := K9.alloc (.cells #[.bool bD, .string tD] 37)
    replace K11 := K11.alloc (.cells #[.bool bD, .string tD] 37)
    replace K13 := K13.alloc (.cells #[.bool bD, .string tD] 37)
    replace K15 := K15.alloc (.cells #[.bool bD, .string tD] 37)
    replace K16 := K16.alloc (.cells #[.bool bD, .string tD] 37)
    replace K17 := K17.alloc (.cells #[.bool bD, .string tD] 37)
    replace K18 := K18.alloc (.cells #[.bool bD, .string tD] 37)
    replace K19 := K19.alloc (.cells #[.bool bD, .string tD] 37)
    replace K21 := K21.alloc (.cells #[.bool bD, .string tD] 37)
    replace K23 := K23.alloc (.cells #[.bool bD, .string tD] 37)
    have K25 := Bk.new u15 #[.bool bD, .string tD] 37
    replace HV := HV.alloc HV.size (.cells #[.bool bD, .string tD] 37)
    go_wp2_with fail
    refine (C1.out _).mono ?_
    rintro e u16 ⟨rfl, hb⟩
    replace K3 := K3.below hb
    replace K4 := K4.below hb
    replace K5 := K5.below hb
    replace K7 := K7.below hb
    replace K9 := K9.below hb
    replace K11 := K11.below hb
    replace K13 := K13.below hb
    replace K15 := K15.below hb
    replace K16 := K16.below hb
    replace K17 := K17.below hb
    replace K18 := K18.below hb
    replace K19 := K19.below hb
    replace K21 := K21.below hb
    replace K23 := K23.below hb
    replace K25 := K25.below hb
    replace HV := HV.trans (hb.mono HV.size)
    clear hb
    clear zK3a zK3b zK3l zK4a zK4b zK4l
    go_upto_region 20 with fail
    obtain ⟨C, hC0, k15, k16, k17, k21, k18, k23, k4, k3, k25, k7, k11, k5, kv, hm⟩ : ∃ C : World → Prop, C u16.drew ∧ (∀ w', C w' → Bk w' (u8.heap.size) #[.bool bS, .string tS] 37) ∧ (∀ w', C w' → Bk w' (u9.heap.size) #[.bool bS, .string tS] 37) ∧ (∀ w', C w' → Bk w' (u10.heap.size) #[.bool bP, .string tP] 37) ∧ (∀ w', C w' → Bk w' (u13.heap.size) #[.bool bP, .string tP] 37) ∧ (∀ w', C w' → Bk w' (u11.heap.size) #[.bool bQ, .string tQ] 37) ∧ (∀ w', C w' → Bk w' (u14.heap.size) #[.bool bQ, .string tQ] 37) ∧ (∀ w', C w' → Bk w' (w.heap.size + 1) #[.bool q, .string t] 37) ∧ (∀ w', C w' → Bk w' (w.heap.size) #[.bool p, .string s] 37) ∧ (∀ w', C w' → Bk w' (u15.heap.size) #[.bool bD, .string tD] 37) ∧ (∀ w', C w' → Bk w' (u4.heap.size) #[.bool bAB, .string tAB] 37) ∧ (∀ w', C w' → Bk w' (u6.heap.size) #[.bool bBC, .string tBC] 37) ∧ (∀ w', C w' → Bk w' (w.heap.size + 1 + 1) #[.bool o, .string u] 37) ∧ (∀ w', C w' → Below w.heap.size w w') ∧ (∀ w' w'', C w' → Below w'.heap.size w' w'' → C w'') :=
      ⟨fun w' => Bk w' (u8.heap.size) #[.bool bS, .string tS] 37 ∧ Bk w' (u9.heap.size) #[.bool bS, .string tS] 37 ∧ Bk w' (u10.heap.size) #[.bool bP, .string tP] 37 ∧ Bk w' (u13.heap.size) #[.bool bP, .string tP] 37 ∧ Bk w' (u11.heap.size) #[.bool bQ, .string tQ] 37 ∧ Bk w' (u14.heap.size) #[.bool bQ, .string tQ] 37 ∧ Bk w' (w.heap.size + 1) #[.bool q, .string t] 37 ∧ Bk w' (w.heap.size) #[.bool p, .string s] 37 ∧ Bk w' (u15.heap.size) #[.bool bD, .string tD] 37 ∧ Bk w' (u4.heap.size) #[.bool bAB, .string tAB] 37 ∧ Bk w' (u6.heap.size) #[.bool bBC, .string tBC] 37 ∧ Bk w' (w.heap.size + 1 + 1) #[.bool o, .string u] 37 ∧ Below w.heap.size w w', ⟨K15.drew, K16.drew, K17.drew, K21.drew, K18.drew, K23.drew, K4.drew, K3.drew, K25.drew, K7.drew, K11.drew, K5.drew, HV.drew⟩, fun w' h => h.1, fun w' h => h.2.1, fun w' h => h.2.2.1, fun w' h => h.2.2.2.1, fun w' h => h.2.2.2.2.1, fun w' h => h.2.2.2.2.2.1, fun w' h => h.2.2.2.2.2.2.1, fun w' h => h.2.2.2.2.2.2.2.1, fun w' h => h.2.2.2.2.2.2.2.2.1, fun w' h => h.2.2.2.2.2.2.2.2.2.1, fun w' h => h.2.2.2.2.2.2.2.2.2.2.1, fun w' h => h.2.2.2.2.2.2.2.2.2.2.2.1, fun w' h => h.2.2.2.2.2.2.2.2.2.2.2.2, fun w' w'' h hb => ⟨(h.1).below hb, (h.2.1).below hb, (h.2.2.1).below hb, (h.2.2.2.1).below hb, (h.2.2.2.2.1).below hb, (h.2.2.2.2.2.1).below hb, (h.2.2.2.2.2.2.1).below hb, (h.2.2.2.2.2.2.2.1).below hb, (h.2.2.2.2.2.2.2.2.1).below hb, (h.2.2.2.2.2.2.2.2.2.1).below hb, (h.2.2.2.2.2.2.2.2.2.2.1).below hb, (h.2.2.2.2.2.2.2.2.2.2.2.1).below hb, (h.2.2.2.2.2.2.2.2.2.2.2.2).trans (hb.mono (h.2.2.2.2.2.2.2.2.2.2.2.2).size)⟩⟩
    refine wp_quietC (C := C) (by kernel_rfl) (by kernel_rfl) hC0 ?_
    go_big_quiet_want
    refine q_fake (.bool true) ?_ ?_
    · intro wx hx; exact at_call rfl (by kernel_rfl) (ent_awake _) (iawake_any wx) (fun w' hb => hm wx w' hx hb)
    go_big_quiet_op
    go_big_quiet_on
    go_big_quiet_want
    refine q_fake (.bool true) ?_ ?_
    · intro wx hx; exact at_move rfl (by kernel_rfl)
    go_big_quiet_op
    go_big_quiet_on
    go_big_quiet_want
    refine q_fake (.agg #[.bool bS, .string tS]) ?_ ?_
    · intro wx hx; exact at_loadI rfl (by kernel_rfl) (k15 wx hx)
    go_big_quiet_op
    go_big_quiet_on
    go_big_quiet_want
    refine q_fake (.agg #[.bool bS, .string tS]) ?_ ?_
    · intro wx hx; exact at_loadI rfl (by kernel_rfl) (k16 wx hx)
    go_big_quiet_op
    go_big_quiet_on
    go_big_quiet_want
    refine q_fake (.bool true) ?_ ?_
    · intro wx hx; exact at_same_eqlI (p := bS) (s := tS) rfl (by kernel_rfl) (by kernel_rfl)
    go_big_quiet_op
    go_big_quiet_on
    go_big_quiet_want
    refine q_fake (.bool true) ?_ ?_
    · intro wx hx; exact at_pick rfl (by kernel_rfl) (by kernel_rfl)
    go_big_quiet_op
    go_big_quiet_on
    go_big_quiet_want
    refine q_fake (.bool true) ?_ ?_
    · intro wx hx; exact at_move rfl (by kernel_rfl)
    go_big_quiet_op
    go_big_quiet_on
    go_big_quiet_want
    refine q_fake (.agg #[.bool bP, .string tP]) ?_ ?_
    · intro wx hx; exact at_loadI rfl (by kernel_rfl) (k17 wx hx)
    go_big_quiet_op
    go_big_quiet_on
    go_big_quiet_want
    refine q_fake (.agg #[.bool bP, .string tP]) ?_ ?_
    · intro wx hx; exact at_loadI rfl (by kernel_rfl) (k21 wx hx)
    go_big_quiet_op
    go_big_quiet_on
    go_big_quiet_want
    refine q_fake (.bool true) ?_ ?_
    · intro wx hx; exact at_same_eqlI (p := bP) (s := tP) rfl (by kernel_rfl) (by kernel_rfl)
    go_big_quiet_op
    go_big_quiet_on
    go_big_quiet_want
    refine q_fake (.bool true) ?_ ?_
    · intro wx hx; exact at_pick rfl (by kernel_rfl) (by kernel_rfl)
    go_big_quiet_op
    go_big_quiet_on
    go_big_quiet_want
    refine q_fake (.bool true) ?_ ?_
    · intro wx hx; exact at_move rfl (by kernel_rfl)
    go_big_quiet_op
    go_big_quiet_on
    go_big_quiet_want
    refine q_fake (.agg #[.bool bQ, .string tQ]) ?_ ?_
    · intro wx hx; exact at_loadI rfl (by kernel_rfl) (k18 wx hx)
    go_big_quiet_op
    go_big_quiet_on
    go_big_quiet_want
    refine q_fake (.agg #[.bool bQ, .string tQ]) ?_ ?_
    · intro wx hx; exact at_loadI rfl (by kernel_rfl) (k23 wx hx)
    go_big_quiet_op
    go_big_quiet_on
    go_big_quiet_want
    refine q_fake (.bool true) ?_ ?_
    · intro wx hx; exact at_same_eqlI (p := bQ) (s := tQ) rfl (by kernel_rfl) (by kernel_rfl)
    go_big_quiet_op
    go_big_quiet_on
    go_big_quiet_want
    refine q_fake (.bool true) ?_ ?_
    · intro wx hx; exact at_pick rfl (by kernel_rfl) (by kernel_rfl)
    go_big_quiet_op
    go_big_quiet_on
    go_big_quiet_want
    refine q_fake (.bool true) ?_ ?_
    · intro wx hx; exact at_move rfl (by kernel_rfl)
    go_big_quiet_op
    go_big_quiet_on
    go_big_quiet_want
    refine q_fake (.int .i64 (n)) ?_ ?_
    · intro wx hx; exact at_move rfl (by kernel_rfl)
    go_big_quiet_op
    go_big_quiet_on
    go_big_quiet_want
    refine q_fake (.agg #[.bool q, .string t]) ?_ ?_
    · intro wx hx; exact at_loadI rfl (by kernel_rfl) (k4 wx hx)
    go_big_quiet_op
    go_big_quiet_on
    go_big_quiet_want
    refine q_fake (.agg #[.bool p, .string s]) ?_ ?_
    · intro wx hx; exact at_loadI rfl (by kernel_rfl) (k3 wx hx)
    go_big_quiet_op
    go_big_quiet_on
    go_big_quiet_want
    refine q_fake (.int .i64 (-(n))) ?_ ?_
    · intro wx hx; exact at_call rfl (by kernel_rfl) (ent_cmp _) (C2.out wx) (fun w' hb => hm wx w' hx hb)
    go_big_quiet_op
    go_big_quiet_on
    go_big_quiet_want
    refine q_fake (.int .i64 (n)) ?_ ?_
    · intro wx hx; exact at_neg2 rfl (by kernel_rfl) n0 n1
    go_big_quiet_op
    go_big_quiet_on
    go_big_quiet_want
    refine q_fake (.bool true) ?_ ?_
    · intro wx hx; exact at_same_eqlN (i := n) rfl (by kernel_rfl) (by kernel_rfl)
    go_big_quiet_op
    go_big_quiet_on
    go_big_quiet_want
    refine q_fake (.bool true) ?_ ?_
    · intro wx hx; exact at_pick rfl (by kernel_rfl) (by kernel_rfl)
    go_big_quiet_op
    go_big_quiet_on
    go_big_quiet_want
    refine q_fake (.bool true) ?_ ?_
    · intro wx hx; exact at_move rfl (by kernel_rfl)
    go_big_quiet_op
    go_big_quiet_on
    go_big_quiet_want
    refine q_fake (.int .i64 (n)) ?_ ?_
    · intro wx hx; exact at_move rfl (by kernel_rfl)
    go_big_quiet_op
    go_big_quiet_on
    go_big_quiet_want
    refine q_fake (.bool false) ?_ ?_
    · intro wx hx; exact hn ▸ at_eqlN (i := n) (j := 0) rfl (by kernel_rfl) (by kernel_rfl)
    go_big_quiet_op
    go_big_quiet_on
    go_big_quiet_want
    refine q_fake (.agg #[.bool p, .string s]) ?_ ?_
    · intro wx hx; exact at_loadI rfl (by kernel_rfl) (k3 wx hx)
    go_big_quiet_op
    go_big_quiet_on
    go_big_quiet_want
    refine q_fake (.agg #[.bool q, .string t]) ?_ ?_
    · intro wx hx; exact at_loadI rfl (by kernel_rfl) (k4 wx hx)
    go_big_quiet_op
    go_big_quiet_on
    go_big_quiet_want
    refine q_fake (.bool false) ?_ ?_
    · intro wx hx; exact (show (p == q && s.toList == t.toList) = false by simp [hpq]) ▸ at_eqlI (p := p) (q := q) (s := s) (t := t) rfl (by kernel_rfl) (by kernel_rfl)
    go_big_quiet_op
    go_big_quiet_on
    go_big_quiet_want
    refine q_fake (.bool true) ?_ ?_
    · intro wx hx; exact at_eqlB (i := false) (j := false) rfl (by kernel_rfl) (by kernel_rfl)
    go_big_quiet_op
    go_big_quiet_on
    go_big_quiet_want
    refine q_fake (.bool true) ?_ ?_
    · intro wx hx; exact at_pick rfl (by kernel_rfl) (by kernel_rfl)
    go_big_quiet_op
    go_big_quiet_on
    go_big_quiet_want
    refine q_fake (.bool true) ?_ ?_
    · intro wx hx; exact at_move rfl (by kernel_rfl)
    go_big_quiet_op
    go_big_quiet_on
    go_big_quiet_want
    refine q_fake (.int .i64 (n)) ?_ ?_
    · intro wx hx; exact at_move rfl (by kernel_rfl)
    go_big_quiet_op
    go_big_quiet_on
    go_big_quiet_want
    refine q_fake (.agg #[.bool bD, .string tD]) ?_ ?_
    · intro wx hx; exact at_loadI rfl (by kernel_rfl) (k25 wx hx)
    go_big_quiet_op
    go_big_quiet_on
    go_big_quiet_want
    refine q_fake (.agg #[.bool bZ, .string tZ]) ?_ ?_
    · intro wx hx; exact at_call rfl (by kernel_rfl) (ent_of _) (O0.out wx) (fun w' hb => hm wx w' hx hb)
    go_big_quiet_op
    go_big_quiet_on
    go_big_quiet_want
    refine q_fake (.int .i64 (n)) ?_ ?_
    · intro wx hx; exact at_call rfl (by kernel_rfl) (ent_cmp _) (C3.out wx) (fun w' hb => hm wx w' hx hb)
    go_big_quiet_op
    go_big_quiet_on
    go_big_quiet_want
    refine q_fake (.bool true) ?_ ?_
    · intro wx hx; exact at_same_eqlN (i := n) rfl (by kernel_rfl) (by kernel_rfl)
    go_big_quiet_op
    go_big_quiet_on
    go_big_quiet_want
    refine q_fake (.bool true) ?_ ?_
    · intro wx hx; exact at_pick rfl (by kernel_rfl) (by kernel_rfl)
    go_big_quiet_op
    go_big_quiet_on
    go_big_quiet_want
    refine q_fake (.bool true) ?_ ?_
    · intro wx hx; exact at_move rfl (by kernel_rfl)
    go_big_quiet_op
    go_big_quiet_on
    go_big_quiet_want
    refine q_fake (.agg #[.bool bAB, .string tAB]) ?_ ?_
    · intro wx hx; exact at_loadI rfl (by kernel_rfl) (k7 wx hx)
    go_big_quiet_op
    go_big_quiet_on
    go_big_quiet_want
    refine q_fake (.agg #[.bool bBC, .string tBC]) ?_ ?_
    · intro wx hx; exact at_loadI rfl (by kernel_rfl) (k11 wx hx)
    go_big_quiet_op
    go_big_quiet_on
    go_big_quiet_want
    refine q_fake (.int .i64 m) ?_ ?_
    · intro wx hx; exact at_call rfl (by kernel_rfl) (ent_cmp _) (C4.out wx) (fun w' hb => hm wx w' hx hb)
    go_big_quiet_op
    go_big_quiet_on
    go_big_quiet_want
    refine q_fake (.agg #[.bool p, .string s]) ?_ ?_
    · intro wx hx; exact at_loadI rfl (by kernel_rfl) (k3 wx hx)
    go_big_quiet_op
    go_big_quiet_on
    go_big_quiet_want
    refine q_fake (.agg #[.bool o, .string u]) ?_ ?_
    · intro wx hx; exact at_loadI rfl (by kernel_rfl) (k5 wx hx)
    go_big_quiet_op
    go_big_quiet_on
    go_big_quiet_want
    refine q_fake (.int .i64 m) ?_ ?_
    · intro wx hx; exact at_call rfl (by kernel_rfl) (ent_cmp _) (C5.out wx) (fun w' hb => hm wx w' hx hb)
    go_big_quiet_op
    go_big_quiet_on
    go_big_quiet_want
    refine q_fake (.bool true) ?_ ?_
    · intro wx hx; exact at_same_eqlN (i := m) rfl (by kernel_rfl) (by kernel_rfl)
    go_big_quiet_op
    go_big_quiet_on
    go_big_quiet_want
    refine q_fake (.bool true) ?_ ?_
    · intro wx hx; exact at_pick rfl (by kernel_rfl) (by kernel_rfl)
    go_big_quiet_op
    go_big_quiet_on
    go_big_quiet_want
    refine q_fake (.bool true) ?_ ?_
    · intro wx hx; exact at_assign rfl (by kernel_rfl)
    go_big_quiet_op
    go_big_quiet_on
    refine wpQuiet_nil ?_
    intro wz hz
    have HZ := kv wz hz
    clear hm kv k15 k16 k17 k21 k18 k23 k4 k3 k25 k7 k11 k5 hC0
    rename_i Kx hKx
    show Kx _ wz
    refine hKx _ wz ?_
    first | (go_wp2; go_ret; exact ⟨rfl, HZ⟩) | (show bodyPost Try.prog _ _ .ret _ wz; refine bodyPost_ret (v := .bool true) (by kernel_rfl) rfl ⟨rfl, HZ⟩)
  · have V1 := Lib.hid cV1
    have V2 := Lib.hid cV2
    have V3 := Lib.hid cV3
    have A1 := Lib.hid cA1
    have A2 := Lib.hid cA2
    have A3 := Lib.hid cA3
    have A4 := Lib.hid cA4
    have A5 := Lib.hid cA5
    have A6 := Lib.hid cA6
    have M1 := Lib.hid cM1
    have M2 := Lib.hid cM2
    have M3 := Lib.hid cM3
    have A7 := Lib.hid cA7
    have M4 := Lib.hid cM4
    have S1 := Lib.hid cS1
    have C1 := Lib.hid cC1
    have C2 := Lib.hid cC2
    have O0 := Lib.hid cO0
    have C3 := Lib.hid cC3
    have C4 := Lib.hid cC4
    have C5 := Lib.hid cC5
    clear cV1 cV2 cV3 cA1 cA2 cA3 cA4 cA5 cA6 cM1 cM2 cM3 cA7 cM4 cS1 cC1 cC2 cO0 cC3 cC4 cC5
    have K3 := ((Bk.new w #[.bool p, .string s] 37).alloc (.cells #[.bool p, .string t] 37)).alloc (.cells #[.bool o, .string u] 37)
    have K4 := (Bk.new1 w (.cells #[.bool p, .string s] 37) #[.bool p, .string t] 37).alloc (.cells #[.bool o, .string u] 37)
    have K5 := Bk.new1 (w.alloc (.cells #[.bool p, .string s] 37)) (.cells #[.bool p, .string t] 37) #[.bool o, .string u] 37
    rw [show (w.alloc (.cells #[.bool p, .string s] 37)).heap.size + 1 = w.heap.size + 1 + 1 from by simp] at K5
    have HV := (((Below.refl w.heap.size w).alloc (Nat.le_refl _) (.cells #[.bool p, .string s] 37)).alloc (by simp) (.cells #[.bool p, .string t] 37)).alloc (by simp; omega) (.cells #[.bool o, .string u] 37)
    go_enter Try.func11, Try.ntmps11
    go_wp2_with fail
    refine (V1.out _).mono ?_
    rintro e u1 ⟨rfl, hb⟩
    replace K3 := K3.below hb
    replace K4 := K4.below hb
    replace K5 := K5.below hb
    replace HV := HV.trans (hb.mono HV.size)
    clear hb
    have zK3a : u1.cell? ⟨w.heap.size, 0, none⟩ = some (.bool p) := K3.cell 0
    have zK3b : u1.cell? ⟨w.heap.size, 1, none⟩ = some (.string s) := K3.cell 1
    have zK3l : w.heap.size < u1.heap.size := K3.lt
    have zK4a : u1.cell? ⟨w.heap.size + 1, 0, none⟩ = some (.bool p) := K4.cell 0
    have zK4b : u1.cell? ⟨w.heap.size + 1, 1, none⟩ = some (.string t) := K4.cell 1
    have zK4l : w.heap.size + 1 < u1.heap.size := K4.lt
    have zK5a : u1.cell? ⟨w.heap.size + 1 + 1, 0, none⟩ = some (.bool o) := K5.cell 0
    have zK5b : u1.cell? ⟨w.heap.size + 1 + 1, 1, none⟩ = some (.string u) := K5.cell 1
    have zK5l : w.heap.size + 1 + 1 < u1.heap.size := K5.lt
    go_wp2_with fail
    refine (V2.out _).mono ?_
    rintro e u2 ⟨rfl, hb⟩
    replace K3 := K3.below hb
    replace K4 := K4.below hb
    replace K5 := K5.below hb
    replace HV := HV.trans (hb.mono HV.size)
    clear hb
    clear zK3a zK3b zK3l zK4a zK4b zK4l zK5a zK5b zK5l
    have zK3a : u2.cell? ⟨w.heap.size, 0, none⟩ = some (.bool p) := K3.cell 0
    have zK3b : u2.cell? ⟨w.heap.size, 1, none⟩ = some (.string s) := K3.cell 1
    have zK3l : w.heap.size < u2.heap.size := K3.lt
    have zK4a : u2.cell? ⟨w.heap.size + 1, 0, none⟩ = some (.bool p) := K4.cell 0
    have zK4b : u2.cell? ⟨w.heap.size + 1, 1, none⟩ = some (.string t) := K4.cell 1
    have zK4l : w.heap.size + 1 < u2.heap.size := K4.lt
    have zK5a : u2.cell? ⟨w.heap.size + 1 + 1, 0, none⟩ = some (.bool o) := K5.cell 0
    have zK5b : u2.cell? ⟨w.heap.size + 1 + 1, 1, none⟩ = some (.string u) := K5.cell 1
    have zK5l : w.heap.size + 1 + 1 < u2.heap.size := K5.lt
    go_wp2_with fail
    refine (V3.out _).mono ?_
    rintro e u3 ⟨rfl, hb⟩
    replace K3 := K3.below hb
    replace K4 := K4.below hb
    replace K5 := K5.below hb
    replace HV := HV.trans (hb.mono HV.size)
    clear hb
    clear zK3a zK3b zK3l zK4a zK4b zK4l zK5a zK5b zK5l
    have zK3a : u3.cell? ⟨w.heap.size, 0, none⟩ = some (.bool p) := K3.cell 0
    have zK3b : u3.cell? ⟨w.heap.size, 1, none⟩ = some (.string s) := K3.cell 1
    have zK3l : w.heap.size < u3.heap.size := K3.lt
    have zK4a : u3.cell? ⟨w.heap.size + 1, 0, none⟩ = some (.bool p) := K4.cell 0
    have zK4b : u3.cell? ⟨w.heap.size + 1, 1, none⟩ = some (.string t) := K4.cell 1
    have zK4l : w.heap.size + 1 < u3.heap.size := K4.lt
    have zK5a : u3.cell? ⟨w.heap.size + 1 + 1, 0, none⟩ = some (.bool o) := K5.cell 0
    have zK5b : u3.cell? ⟨w.heap.size + 1 + 1, 1, none⟩ = some (.string u) := K5.cell 1
    have zK5l : w.heap.size + 1 + 1 < u3.heap.size := K5.lt
    go_wp2_with fail
    refine (A1.out _).mono ?_
    rintro e u4 ⟨rfl, hb⟩
    replace K3 := K3.below hb
    replace K4 := K4.below hb
    replace K5 := K5.below hb
    replace HV := HV.trans (hb.mono HV.size)
    clear hb
    clear zK3a zK3b zK3l zK4a zK4b zK4l zK5a zK5b zK5l
    have zK3a : u4.cell? ⟨w.heap.size, 0, none⟩ = some (.bool p) := K3.cell 0
    have zK3b : u4.cell? ⟨w.heap.size, 1, none⟩ = some (.string s) := K3.cell 1
    have zK3l : w.heap.size < u4.heap.size := K3.lt
    have zK4a : u4.cell? ⟨w.heap.size + 1, 0, none⟩ = some (.bool p) := K4.cell 0
    have zK4b : u4.cell? ⟨w.heap.size + 1, 1, none⟩ = some (.string t) := K4.cell 1
    have zK4l : w.heap.size + 1 < u4.heap.size := K4.lt
    replace K3 := K3.alloc (.cells #[.bool bAB, .string tAB] 37)
    replace K4 := K4.alloc (.cells #[.bool bAB, .string tAB] 37)
    replace K5 := K5.alloc (.cells #[.bool bAB, .string tAB] 37)
    have K7 := Bk.new u4 #[.bool bAB, .string tAB] 37
    replace HV := HV.alloc HV.size (.cells #[.bool bAB, .string tAB] 37)
    go_wp2_with fail
    refine (A2.out _).mono ?_
    rintro e u5 ⟨rfl, hb⟩
    replace K3 := K3.below hb
    replace K4 := K4.below hb
    replace K5 := K5.below hb
    replace K7 := K7.below hb
    replace HV := HV.trans (hb.mono HV.size)
    clear hb
    clear zK3a zK3b zK3l zK4a zK4b zK4l
    have zK4a : u5.cell? ⟨w.heap.size + 1, 0, none⟩ = some (.bool p) := K4.cell 0
    have zK4b : u5.cell? ⟨w.heap.size + 1, 1, none⟩ = some (.string t) := K4.cell 1
    have zK4l : w.heap.size + 1 < u5.heap.size := K4.lt
    have zK5a : u5.cell? ⟨w.heap.size + 1 + 1, 0, none⟩ = some (.bool o) := K5.cell 0
    have zK5b : u5.cell? ⟨w.heap.size + 1 + 1, 1, none⟩ = some (.string u) := K5.cell 1
    have zK5l : w.heap.size + 1 + 1 < u5.heap.size := K5.lt
    replace K3 := K3.alloc (.cells #[.bool bAB, .string tAB] 37)
    replace K4 := K4.alloc (.cells #[.bool bAB, .string tAB] 37)
    replace K5 := K5.alloc (.cells #[.bool bAB, .string tAB] 37)
    replace K7 := K7.alloc (.cells #[.bool bAB, .string tAB] 37)
    have K9 := Bk.new u5 #[.bool bAB, .string tAB] 37
    replace HV := HV.alloc HV.size (.cells #[.bool bAB, .string tAB] 37)
    go_wp2_with fail
    refine (A3.out _).mono ?_
    rintro e u6 ⟨rfl, hb⟩
    replace K3 := K3.below hb
    replace K4 := K4.below hb
    replace K5 := K5.below hb
    replace K7 := K7.below hb
    replace K9 := K9.below hb
    replace HV := HV.trans (hb.mono HV.size)
    clear hb
    clear zK4a zK4b zK4l zK5a zK5b zK5l
    have zK7a : u6.cell? ⟨u4.heap.size, 0, none⟩ = some (.bool bAB) := K7.cell 0
    have zK7b : u6.cell? ⟨u4.heap.size, 1, none⟩ = some (.string tAB) := K7.cell 1
    have zK7l : u4.heap.size < u6.heap.size := K7.lt
    have zK4a : u6.cell? ⟨w.heap.size + 1, 0, none⟩ = some (.bool p) := K4.cell 0
    have zK4b : u6.cell? ⟨w.heap.size + 1, 1, none⟩ = some (.string t) := K4.cell 1
    have zK4l : w.heap.size + 1 < u6.heap.size := K4.lt
    replace K3 := K3.alloc (.cells #[.bool bBC, .string tBC] 37)
    replace K4 := K4.alloc (.cells #[.bool bBC, .string tBC] 37)
    replace K5 := K5.alloc (.cells #[.bool bBC, .string tBC] 37)
    replace K7 := K7.alloc (.cells #[.bool bBC, .string tBC] 37)
    replace K9 := K9.alloc (.cells #[.bool bBC, .string tBC] 37)
    have K11 := Bk.new u6 #[.bool bBC, .string tBC] 37
    replace HV := HV.alloc HV.size (.cells #[.bool bBC, .string tBC] 37)
    go_wp2_with fail
    refine (A4.out _).mono ?_
    rintro e u7 ⟨rfl, hb⟩
    replace K3 := K3.below hb
    replace K4 := K4.below hb
    replace K5 := K5.below hb
    replace K7 := K7.below hb
    replace K9 := K9.below hb
    replace K11 := K11.below hb
    replace HV := HV.trans (hb.mono HV.size)
    clear hb
    clear zK7a zK7b zK7l zK4a zK4b zK4l
    have zK7a : u7.cell? ⟨u4.heap.size, 0, none⟩ = some (.bool bAB) := K7.cell 0
    have zK7b : u7.cell? ⟨u4.heap.size, 1, none⟩ = some (.string tAB) := K7.cell 1
    have zK7l : u4.heap.size < u7.heap.size := K7.lt
    have zK9a : u7.cell? ⟨u5.heap.size, 0, none⟩ = some (.bool bAB) := K9.cell 0
    have zK9b : u7.cell? ⟨u5.heap.size, 1, none⟩ = some (.string tAB) := K9.cell 1
    have zK9l : u5.heap.size < u7.heap.size := K9.lt
    have zK3a : u7.cell? ⟨w.heap.size, 0, none⟩ = some (.bool p) := K3.cell 0
    have zK3b : u7.cell? ⟨w.heap.size, 1, none⟩ = some (.string s) := K3.cell 1
    have zK3l : w.heap.size < u7.heap.size := K3.lt
    have zK5a : u7.cell? ⟨w.heap.size + 1 + 1, 0, none⟩ = some (.bool o) := K5.cell 0
    have zK5b : u7.cell? ⟨w.heap.size + 1 + 1, 1, none⟩ = some (.string u) := K5.cell 1
    have zK5l : w.heap.size + 1 + 1 < u7.heap.size := K5.lt
    replace K3 := K3.alloc (.cells #[.bool p, .string s] 37)
    replace K4 := K4.alloc (.cells #[.bool p, .string s] 37)
    replace K5 := K5.alloc (.cells #[.bool p, .string s] 37)
    replace K7 := K7.alloc (.cells #[.bool p, .string s] 37)
    replace K9 := K9.alloc (.cells #[.bool p, .string s] 37)
    replace K11 := K11.alloc (.cells #[.bool p, .string s] 37)
    have K13 := Bk.new u7 #[.bool p, .string s] 37
    replace HV := HV.alloc HV.size (.cells #[.bool p, .string s] 37)
    go_wp2_with fail
    refine (A5.out _).mono ?_
    rintro e u8 ⟨rfl, hb⟩
    replace K3 := K3.below hb
    replace K4 := K4.below hb
    replace K5 := K5.below hb
    replace K7 := K7.below hb
    replace K9 := K9.below hb
    replace K11 := K11.below hb
    replace K13 := K13.below hb
    replace HV := HV.trans (hb.mono HV.size)
    clear hb
    clear zK7a zK7b zK7l zK9a zK9b zK9l zK3a zK3b zK3l zK5a zK5b zK5l
    have zK3a : u8.cell? ⟨w.heap.size, 0, none⟩ = some (.bool p) := K3.cell 0
    have zK3b : u8.cell? ⟨w.heap.size, 1, none⟩ = some (.string s) := K3.cell 1
    have zK3l : w.heap.size < u8.heap.size := K3.lt
    have zK11a : u8.cell? ⟨u6.heap.size, 0, none⟩ = some (.bool bBC) := K11.cell 0
    have zK11b : u8.cell? ⟨u6.heap.size, 1, none⟩ = some (.string tBC) := K11.cell 1
    have zK11l : u6.heap.size < u8.heap.size := K11.lt
    replace K3 := K3.alloc (.cells #[.bool bS, .string tS] 37)
    replace K4 := K4.alloc (.cells #[.bool bS, .string tS] 37)
    replace K5 := K5.alloc (.cells #[.bool bS, .string tS] 37)
    replace K7 := K7.alloc (.cells #[.bool bS, .string tS] 37)
    replace K9 := K9.alloc (.cells #[.bool bS, .string tS] 37)
    replace K11 := K11.alloc (.cells #[.bool bS, .string tS] 37)
    replace K13 := K13.alloc (.cells #[.bool bS, .string tS] 37)
    have K15 := Bk.new u8 #[.bool bS, .string tS] 37
    replace HV := HV.alloc HV.size (.cells #[.bool bS, .string tS] 37)
    go_wp2_with fail
    refine (A6.out _).mono ?_
    rintro e u9 ⟨rfl, hb⟩
    replace K3 := K3.below hb
    replace K4 := K4.below hb
    replace K5 := K5.below hb
    replace K7 := K7.below hb
    replace K9 := K9.below hb
    replace K11 := K11.below hb
    replace K13 := K13.below hb
    replace K15 := K15.below hb
    replace HV := HV.trans (hb.mono HV.size)
    clear hb
    clear zK3a zK3b zK3l zK11a zK11b zK11l
    have zK3a : u9.cell? ⟨w.heap.size, 0, none⟩ = some (.bool p) := K3.cell 0
    have zK3b : u9.cell? ⟨w.heap.size, 1, none⟩ = some (.string s) := K3.cell 1
    have zK3l : w.heap.size < u9.heap.size := K3.lt
    have zK11a : u9.cell? ⟨u6.heap.size, 0, none⟩ = some (.bool bBC) := K11.cell 0
    have zK11b : u9.cell? ⟨u6.heap.size, 1, none⟩ = some (.string tBC) := K11.cell 1
    have zK11l : u6.heap.size < u9.heap.size := K11.lt
    replace K3 := K3.alloc (.cells #[.bool bS, .string tS] 37)
    replace K4 := K4.alloc (.cells #[.bool bS, .string tS] 37)
    replace K5 := K5.alloc (.cells #[.bool bS, .string tS] 37)
    replace K7 := K7.alloc (.cells #[.bool bS, .string tS] 37)
    replace K9 := K9.alloc (.cells #[.bool bS, .string tS] 37)
    replace K11 := K11.alloc (.cells #[.bool bS, .string tS] 37)
    replace K13 := K13.alloc (.cells #[.bool bS, .string tS] 37)
    replace K15 := K15.alloc (.cells #[.bool bS, .string tS] 37)
    have K16 := Bk.new u9 #[.bool bS, .string tS] 37
    replace HV := HV.alloc HV.size (.cells #[.bool bS, .string tS] 37)
    go_wp2_with fail
    refine (M1.out _).mono ?_
    rintro e u10 ⟨rfl, hb⟩
    replace K3 := K3.below hb
    replace K4 := K4.below hb
    replace K5 := K5.below hb
    replace K7 := K7.below hb
    replace K9 := K9.below hb
    replace K11 := K11.below hb
    replace K13 := K13.below hb
    replace K15 := K15.below hb
    replace K16 := K16.below hb
    replace HV := HV.trans (hb.mono HV.size)
    clear hb
    clear zK3a zK3b zK3l zK11a zK11b zK11l
    have zK3a : u10.cell? ⟨w.heap.size, 0, none⟩ = some (.bool p) := K3.cell 0
    have zK3b : u10.cell? ⟨w.heap.size, 1, none⟩ = some (.string s) := K3.cell 1
    have zK3l : w.heap.size < u10.heap.size := K3.lt
    have zK4a : u10.cell? ⟨w.heap.size + 1, 0, none⟩ = some (.bool p) := K4.cell 0
    have zK4b : u10.cell? ⟨w.heap.size + 1, 1, none⟩ = some (.string t) := K4.cell 1
    have zK4l : w.heap.size + 1 < u10.heap.size := K4.lt
    replace K3 := K3.alloc (.cells #[.bool bP, .string tP] 37)
    replace K4 := K4.alloc (.cells #[.bool bP, .string tP] 37)
    replace K5 := K5.alloc (.cells #[.bool bP, .string tP] 37)
    replace K7 := K7.alloc (.cells #[.bool bP, .string tP] 37)
    replace K9 := K9.alloc (.cells #[.bool bP, .string tP] 37)
    replace K11 := K11.alloc (.cells #[.bool bP, .string tP] 37)
    replace K13 := K13.alloc (.cells #[.bool bP, .string tP] 37)
    replace K15 := K15.alloc (.cells #[.bool bP, .string tP] 37)
    replace K16 := K16.alloc (.cells #[.bool bP, .string tP] 37)
    have K17 := Bk.new u10 #[.bool bP, .string tP] 37
    replace HV := HV.alloc HV.size (.cells #[.bool bP, .string tP] 37)
    go_wp2_with fail
    refine (M2.out _).mono ?_
    rintro e u11 ⟨rfl, hb⟩
    replace K3 := K3.below hb
    replace K4 := K4.below hb
    replace K5 := K5.below hb
    replace K7 := K7.below hb
    replace K9 := K9.below hb
    replace K11 := K11.below hb
    replace K13 := K13.below hb
    replace K15 := K15.below hb
    replace K16 := K16.below hb
    replace K17 := K17.below hb
    replace HV := HV.trans (hb.mono HV.size)
    clear hb
    clear zK3a zK3b zK3l zK4a zK4b zK4l
    have zK3a : u11.cell? ⟨w.heap.size, 0, none⟩ = some (.bool p) := K3.cell 0
    have zK3b : u11.cell? ⟨w.heap.size, 1, none⟩ = some (.string s) := K3.cell 1
    have zK3l : w.heap.size < u11.heap.size := K3.lt
    have zK5a : u11.cell? ⟨w.heap.size + 1 + 1, 0, none⟩ = some (.bool o) := K5.cell 0
    have zK5b : u11.cell? ⟨w.heap.size + 1 + 1, 1, none⟩ = some (.string u) := K5.cell 1
    have zK5l : w.heap.size + 1 + 1 < u11.heap.size := K5.lt
    replace K3 := K3.alloc (.cells #[.bool bQ, .string tQ] 37)
    replace K4 := K4.alloc (.cells #[.bool bQ, .string tQ] 37)
    replace K5 := K5.alloc (.cells #[.bool bQ, .string tQ] 37)
    replace K7 := K7.alloc (.cells #[.bool bQ, .string tQ] 37)
    replace K9 := K9.alloc (.cells #[.bool bQ, .string tQ] 37)
    replace K11 := K11.alloc (.cells #[.bool bQ, .string tQ] 37)
    replace K13 := K13.alloc (.cells #[.bool bQ, .string tQ] 37)
    replace K15 := K15.alloc (.cells #[.bool bQ, .string tQ] 37)
    replace K16 := K16.alloc (.cells #[.bool bQ, .string tQ] 37)
    replace K17 := K17.alloc (.cells #[.bool bQ, .string tQ] 37)
    have K18 := Bk.new u11 #[.bool bQ, .string tQ] 37
    replace HV := HV.alloc HV.size (.cells #[.bool bQ, .string tQ] 37)
    go_wp2_with fail
    refine (M3.out _).mono ?_
    rintro e u12 ⟨rfl, hb⟩
    replace K3 := K3.below hb
    replace K4 := K4.below hb
    replace K5 := K5.below hb
    replace K7 := K7.below hb
    replace K9 := K9.below hb
    replace K11 := K11.below hb
    replace K13 := K13.below hb
    replace K15 := K15.below hb
    replace K16 := K16.below hb
    replace K17 := K17.below hb
    replace K18 := K18.below hb
    replace HV := HV.trans (hb.mono HV.size)
    clear hb
    clear zK3a zK3b zK3l zK5a zK5b zK5l
    have zK18a : u12.cell? ⟨u11.heap.size, 0, none⟩ = some (.bool bQ) := K18.cell 0
    have zK18b : u12.cell? ⟨u11.heap.size, 1, none⟩ = some (.string tQ) := K18.cell 1
    have zK18l : u11.heap.size < u12.heap.size := K18.lt
    replace K3 := K3.alloc (.cells #[.bool bR, .string tR] 37)
    replace K4 := K4.alloc (.cells #[.bool bR, .string tR] 37)
    replace K5 := K5.alloc (.cells #[.bool bR, .string tR] 37)
    replace K7 := K7.alloc (.cells #[.bool bR, .string tR] 37)
    replace K9 := K9.alloc (.cells #[.bool bR, .string tR] 37)
    replace K11 := K11.alloc (.cells #[.bool bR, .string tR] 37)
    replace K13 := K13.alloc (.cells #[.bool bR, .string tR] 37)
    replace K15 := K15.alloc (.cells #[.bool bR, .string tR] 37)
    replace K16 := K16.alloc (.cells #[.bool bR, .string tR] 37)
    replace K17 := K17.alloc (.cells #[.bool bR, .string tR] 37)
    replace K18 := K18.alloc (.cells #[.bool bR, .string tR] 37)
    have K19 := Bk.new u12 #[.bool bR, .string tR] 37
    replace HV := HV.alloc HV.size (.cells #[.bool bR, .string tR] 37)
    go_wp2_with fail
    refine (A7.out _).mono ?_
    rintro e u13 ⟨rfl, hb⟩
    replace K3 := K3.below hb
    replace K4 := K4.below hb
    replace K5 := K5.below hb
    replace K7 := K7.below hb
    replace K9 := K9.below hb
    replace K11 := K11.below hb
    replace K13 := K13.below hb
    replace K15 := K15.below hb
    replace K16 := K16.below hb
    replace K17 := K17.below hb
    replace K18 := K18.below hb
    replace K19 := K19.below hb
    replace HV := HV.trans (hb.mono HV.size)
    clear hb
    clear zK18a zK18b zK18l
    have zK4a : u13.cell? ⟨w.heap.size + 1, 0, none⟩ = some (.bool p) := K4.cell 0
    have zK4b : u13.cell? ⟨w.heap.size + 1, 1, none⟩ = some (.string t) := K4.cell 1
    have zK4l : w.heap.size + 1 < u13.heap.size := K4.lt
    have zK3a : u13.cell? ⟨w.heap.size, 0, none⟩ = some (.bool p) := K3.cell 0
    have zK3b : u13.cell? ⟨w.heap.size, 1, none⟩ = some (.string s) := K3.cell 1
    have zK3l : w.heap.size < u13.heap.size := K3.lt
    replace K3 := K3.alloc (.cells #[.bool bP, .string tP] 37)
    replace K4 := K4.alloc (.cells #[.bool bP, .string tP] 37)
    replace K5 := K5.alloc (.cells #[.bool bP, .string tP] 37)
    replace K7 := K7.alloc (.cells #[.bool bP, .string tP] 37)
    replace K9 := K9.alloc (.cells #[.bool bP, .string tP] 37)
    replace K11 := K11.alloc (.cells #[.bool bP, .string tP] 37)
    replace K13 := K13.alloc (.cells #[.bool bP, .string tP] 37)
    replace K15 := K15.alloc (.cells #[.bool bP, .string tP] 37)
    replace K16 := K16.alloc (.cells #[.bool bP, .string tP] 37)
    replace K17 := K17.alloc (.cells #[.bool bP, .string tP] 37)
    replace K18 := K18.alloc (.cells #[.bool bP, .string tP] 37)
    replace K19 := K19.alloc (.cells #[.bool bP, .string tP] 37)
    have K21 := Bk.new u13 #[.bool bP, .string tP] 37
    replace HV := HV.alloc HV.size (.cells #[.bool bP, .string tP] 37)
    go_wp2_with fail
    refine (M4.out _).mono ?_
    rintro e u14 ⟨rfl, hb⟩
    replace K3 := K3.below hb
    replace K4 := K4.below hb
    replace K5 := K5.below hb
    replace K7 := K7.below hb
    replace K9 := K9.below hb
    replace K11 := K11.below hb
    replace K13 := K13.below hb
    replace K15 := K15.below hb
    replace K16 := K16.below hb
    replace K17 := K17.below hb
    replace K18 := K18.below hb
    replace K19 := K19.below hb
    replace K21 := K21.below hb
    replace HV := HV.trans (hb.mono HV.size)
    clear hb
    clear zK4a zK4b zK4l zK3a zK3b zK3l
    have zK3a : u14.cell? ⟨w.heap.size, 0, none⟩ = some (.bool p) := K3.cell 0
    have zK3b : u14.cell? ⟨w.heap.size, 1, none⟩ = some (.string s) := K3.cell 1
    have zK3l : w.heap.size < u14.heap.size := K3.lt
    have zK4a : u14.cell? ⟨w.heap.size + 1, 0, none⟩ = some (.bool p) := K4.cell 0
    have zK4b : u14.cell? ⟨w.heap.size + 1, 1, none⟩ = some (.string t) := K4.cell 1
    have zK4l : w.heap.size + 1 < u14.heap.size := K4.lt
    replace K3 := K3.alloc (.cells #[.bool bQ, .string tQ] 37)
    replace K4 := K4.alloc (.cells #[.bool bQ, .string tQ] 37)
    replace K5 := K5.alloc (.cells #[.bool bQ, .string tQ] 37)
    replace K7 := K7.alloc (.cells #[.bool bQ, .string tQ] 37)
    replace K9 := K9.alloc (.cells #[.bool bQ, .string tQ] 37)
    replace K11 := K11.alloc (.cells #[.bool bQ, .string tQ] 37)
    replace K13 := K13.alloc (.cells #[.bool bQ, .string tQ] 37)
    replace K15 := K15.alloc (.cells #[.bool bQ, .string tQ] 37)
    replace K16 := K16.alloc (.cells #[.bool bQ, .string tQ] 37)
    replace K17 := K17.alloc (.cells #[.bool bQ, .string tQ] 37)
    replace K18 := K18.alloc (.cells #[.bool bQ, .string tQ] 37)
    replace K19 := K19.alloc (.cells #[.bool bQ, .string tQ] 37)
    replace K21 := K21.alloc (.cells #[.bool bQ, .string tQ] 37)
    have K23 := Bk.new u14 #[.bool bQ, .string tQ] 37
    replace HV := HV.alloc HV.size (.cells #[.bool bQ, .string tQ] 37)
    go_wp2_with fail
    refine (S1.out _).mono ?_
    rintro e u15 ⟨rfl, hb⟩
    replace K3 := K3.below hb
    replace K4 := K4.below hb
    replace K5 := K5.below hb
    replace K7 := K7.below hb
    replace K9 := K9.below hb
    replace K11 := K11.below hb
    replace K13 := K13.below hb
    replace K15 := K15.below hb
    replace K16 := K16.below hb
    replace K17 := K17.below hb
    replace K18 := K18.below hb
    replace K19 := K19.below hb
    replace K21 := K21.below hb
    replace K23 := K23.below hb
    replace HV := HV.trans (hb.mono HV.size)
    clear hb
    clear zK3a zK3b zK3l zK4a zK4b zK4l
    have zK3a : u15.cell? ⟨w.heap.size, 0, none⟩ = some (.bool p) := K3.cell 0
    have zK3b : u15.cell? ⟨w.heap.size, 1, none⟩ = some (.string s) := K3.cell 1
    have zK3l : w.heap.size < u15.heap.size := K3.lt
    have zK4a : u15.cell? ⟨w.heap.size + 1, 0, none⟩ = some (.bool p) := K4.cell 0
    have zK4b : u15.cell? ⟨w.heap.size + 1, 1, none⟩ = some (.string t) := K4.cell 1
    have zK4l : w.heap.size + 1 < u15.heap.size := K4.lt
    replace K3 := K3.alloc (.cells #[.bool bD, .string tD] 37)
    replace K4 := K4.alloc (.cells #[.bool bD, .string tD] 37)
    replace K5 := K5.alloc (.cells #[.bool bD, .string tD] 37)
    replace K7 := K7.alloc (.cells #[.bool bD, .string tD] 37)
    replace K9 := K9.alloc (.cells #[.bool bD, .string tD] 37)
    replace K11 := K11.alloc (.cells #[.bool bD, .string tD] 37)
    replace K13 := K13.alloc (.cells #[.bool bD, .string tD] 37)
    replace K15 := K15.alloc (.cells #[.bool bD, .string tD] 37)
    replace K16 := K16.alloc (.cells #[.bool bD, .string tD] 37)
    replace K17 := K17.alloc (.cells #[.bool bD, .string tD] 37)
    replace K18 := K18.alloc (.cells #[.bool bD, .string tD] 37)
    replace K19 := K19.alloc (.cells #[.bool bD, .string tD] 37)
    replace K21 := K21.alloc (.cells #[.bool bD, .string tD] 37)
    replace K23 := K23.alloc (.cells #[.bool bD, .string tD] 37)
    have K25 := Bk.new u15 #[.bool bD, .string tD] 37
    replace HV := HV.alloc HV.size (.cells #[.bool bD, .string tD] 37)
    go_wp2_with fail
    refine (C1.out _).mono ?_
    rintro e u16 ⟨rfl, hb⟩
    replace K3 := K3.below hb
    replace K4 := K4.below hb
    replace K5 := K5.below hb
    replace K7 := K7.below hb
    replace K9 := K9.below hb
    replace K11 := K11.below hb
    replace K13 := K13.below hb
    replace K15 := K15.below hb
    replace K16 := K16.below hb
    replace K17 := K17.below hb
    replace K18 := K18.below hb
    replace K19 := K19.below hb
    replace K21 := K21.below hb
    replace K23 := K23.below hb
    replace K25 := K25.below hb
    replace HV := HV.trans (hb.mono HV.size)
    clear hb
    clear zK3a zK3b zK3l zK4a zK4b zK4l
    go_upto_region 20 with fail
    obtain ⟨C, hC0, k15, k16, k17, k21, k18, k23, k4, k3, k25, k7, k11, k5, kv, hm⟩ : ∃ C : World → Prop, C u16.drew ∧ (∀ w', C w' → Bk w' (u8.heap.size) #[.bool bS, .string tS] 37) ∧ (∀ w', C w' → Bk w' (u9.heap.size) #[.bool bS, .string tS] 37) ∧ (∀ w', C w' → Bk w' (u10.heap.size) #[.bool bP, .string tP] 37) ∧ (∀ w', C w' → Bk w' (u13.heap.size) #[.bool bP, .string tP] 37) ∧ (∀ w', C w' → Bk w' (u11.heap.size) #[.bool bQ, .string tQ] 37) ∧ (∀ w', C w' → Bk w' (u14.heap.size) #[.bool bQ, .string tQ] 37) ∧ (∀ w', C w' → Bk w' (w.heap.size + 1) #[.bool p, .string t] 37) ∧ (∀ w', C w' → Bk w' (w.heap.size) #[.bool p, .string s] 37) ∧ (∀ w', C w' → Bk w' (u15.heap.size) #[.bool bD, .string tD] 37) ∧ (∀ w', C w' → Bk w' (u4.heap.size) #[.bool bAB, .string tAB] 37) ∧ (∀ w', C w' → Bk w' (u6.heap.size) #[.bool bBC, .string tBC] 37) ∧ (∀ w', C w' → Bk w' (w.heap.size + 1 + 1) #[.bool o, .string u] 37) ∧ (∀ w', C w' → Below w.heap.size w w') ∧ (∀ w' w'', C w' → Below w'.heap.size w' w'' → C w'') :=
      ⟨fun w' => Bk w' (u8.heap.size) #[.bool bS, .string tS] 37 ∧ Bk w' (u9.heap.size) #[.bool bS, .string tS] 37 ∧ Bk w' (u10.heap.size) #[.bool bP, .string tP] 37 ∧ Bk w' (u13.heap.size) #[.bool bP, .string tP] 37 ∧ Bk w' (u11.heap.size) #[.bool bQ, .string tQ] 37 ∧ Bk w' (u14.heap.size) #[.bool bQ, .string tQ] 37 ∧ Bk w' (w.heap.size + 1) #[.bool p, .string t] 37 ∧ Bk w' (w.heap.size) #[.bool p, .string s] 37 ∧ Bk w' (u15.heap.size) #[.bool bD, .string tD] 37 ∧ Bk w' (u4.heap.size) #[.bool bAB, .string tAB] 37 ∧ Bk w' (u6.heap.size) #[.bool bBC, .string tBC] 37 ∧ Bk w' (w.heap.size + 1 + 1) #[.bool o, .string u] 37 ∧ Below w.heap.size w w', ⟨K15.drew, K16.drew, K17.drew, K21.drew, K18.drew, K23.drew, K4.drew, K3.drew, K25.drew, K7.drew, K11.drew, K5.drew, HV.drew⟩, fun w' h => h.1, fun w' h => h.2.1, fun w' h => h.2.2.1, fun w' h => h.2.2.2.1, fun w' h => h.2.2.2.2.1, fun w' h => h.2.2.2.2.2.1, fun w' h => h.2.2.2.2.2.2.1, fun w' h => h.2.2.2.2.2.2.2.1, fun w' h => h.2.2.2.2.2.2.2.2.1, fun w' h => h.2.2.2.2.2.2.2.2.2.1, fun w' h => h.2.2.2.2.2.2.2.2.2.2.1, fun w' h => h.2.2.2.2.2.2.2.2.2.2.2.1, fun w' h => h.2.2.2.2.2.2.2.2.2.2.2.2, fun w' w'' h hb => ⟨(h.1).below hb, (h.2.1).below hb, (h.2.2.1).below hb, (h.2.2.2.1).below hb, (h.2.2.2.2.1).below hb, (h.2.2.2.2.2.1).below hb, (h.2.2.2.2.2.2.1).below hb, (h.2.2.2.2.2.2.2.1).below hb, (h.2.2.2.2.2.2.2.2.1).below hb, (h.2.2.2.2.2.2.2.2.2.1).below hb, (h.2.2.2.2.2.2.2.2.2.2.1).below hb, (h.2.2.2.2.2.2.2.2.2.2.2.1).below hb, (h.2.2.2.2.2.2.2.2.2.2.2.2).trans (hb.mono (h.2.2.2.2.2.2.2.2.2.2.2.2).size)⟩⟩
    refine wp_quietC (C := C) (by kernel_rfl) (by kernel_rfl) hC0 ?_
    go_big_quiet_want
    refine q_fake (.bool true) ?_ ?_
    · intro wx hx; exact at_call rfl (by kernel_rfl) (ent_awake _) (iawake_any wx) (fun w' hb => hm wx w' hx hb)
    go_big_quiet_op
    go_big_quiet_on
    go_big_quiet_want
    refine q_fake (.bool true) ?_ ?_
    · intro wx hx; exact at_move rfl (by kernel_rfl)
    go_big_quiet_op
    go_big_quiet_on
    go_big_quiet_want
    refine q_fake (.agg #[.bool bS, .string tS]) ?_ ?_
    · intro wx hx; exact at_loadI rfl (by kernel_rfl) (k15 wx hx)
    go_big_quiet_op
    go_big_quiet_on
    go_big_quiet_want
    refine q_fake (.agg #[.bool bS, .string tS]) ?_ ?_
    · intro wx hx; exact at_loadI rfl (by kernel_rfl) (k16 wx hx)
    go_big_quiet_op
    go_big_quiet_on
    go_big_quiet_want
    refine q_fake (.bool true) ?_ ?_
    · intro wx hx; exact at_same_eqlI (p := bS) (s := tS) rfl (by kernel_rfl) (by kernel_rfl)
    go_big_quiet_op
    go_big_quiet_on
    go_big_quiet_want
    refine q_fake (.bool true) ?_ ?_
    · intro wx hx; exact at_pick rfl (by kernel_rfl) (by kernel_rfl)
    go_big_quiet_op
    go_big_quiet_on
    go_big_quiet_want
    refine q_fake (.bool true) ?_ ?_
    · intro wx hx; exact at_move rfl (by kernel_rfl)
    go_big_quiet_op
    go_big_quiet_on
    go_big_quiet_want
    refine q_fake (.agg #[.bool bP, .string tP]) ?_ ?_
    · intro wx hx; exact at_loadI rfl (by kernel_rfl) (k17 wx hx)
    go_big_quiet_op
    go_big_quiet_on
    go_big_quiet_want
    refine q_fake (.agg #[.bool bP, .string tP]) ?_ ?_
    · intro wx hx; exact at_loadI rfl (by kernel_rfl) (k21 wx hx)
    go_big_quiet_op
    go_big_quiet_on
    go_big_quiet_want
    refine q_fake (.bool true) ?_ ?_
    · intro wx hx; exact at_same_eqlI (p := bP) (s := tP) rfl (by kernel_rfl) (by kernel_rfl)
    go_big_quiet_op
    go_big_quiet_on
    go_big_quiet_want
    refine q_fake (.bool true) ?_ ?_
    · intro wx hx; exact at_pick rfl (by kernel_rfl) (by kernel_rfl)
    go_big_quiet_op
    go_big_quiet_on
    go_big_quiet_want
    refine q_fake (.bool true) ?_ ?_
    · intro wx hx; exact at_move rfl (by kernel_rfl)
    go_big_quiet_op
    go_big_quiet_on
    go_big_quiet_want
    refine q_fake (.agg #[.bool bQ, .string tQ]) ?_ ?_
    · intro wx hx; exact at_loadI rfl (by kernel_rfl) (k18 wx hx)
    go_big_quiet_op
    go_big_quiet_on
    go_big_quiet_want
    refine q_fake (.agg #[.bool bQ, .string tQ]) ?_ ?_
    · intro wx hx; exact at_loadI rfl (by kernel_rfl) (k23 wx hx)
    go_big_quiet_op
    go_big_quiet_on
    go_big_quiet_want
    refine q_fake (.bool true) ?_ ?_
    · intro wx hx; exact at_same_eqlI (p := bQ) (s := tQ) rfl (by kernel_rfl) (by kernel_rfl)
    go_big_quiet_op
    go_big_quiet_on
    go_big_quiet_want
    refine q_fake (.bool true) ?_ ?_
    · intro wx hx; exact at_pick rfl (by kernel_rfl) (by kernel_rfl)
    go_big_quiet_op
    go_big_quiet_on
    go_big_quiet_want
    refine q_fake (.bool true) ?_ ?_
    · intro wx hx; exact at_move rfl (by kernel_rfl)
    go_big_quiet_op
    go_big_quiet_on
    go_big_quiet_want
    refine q_fake (.int .i64 (n)) ?_ ?_
    · intro wx hx; exact at_move rfl (by kernel_rfl)
    go_big_quiet_op
    go_big_quiet_on
    go_big_quiet_want
    refine q_fake (.agg #[.bool p, .string t]) ?_ ?_
    · intro wx hx; exact at_loadI rfl (by kernel_rfl) (k4 wx hx)
    go_big_quiet_op
    go_big_quiet_on
    go_big_quiet_want
    refine q_fake (.agg #[.bool p, .string s]) ?_ ?_
    · intro wx hx; exact at_loadI rfl (by kernel_rfl) (k3 wx hx)
    go_big_quiet_op
    go_big_quiet_on
    go_big_quiet_want
    refine q_fake (.int .i64 (-(n))) ?_ ?_
    · intro wx hx; exact at_call rfl (by kernel_rfl) (ent_cmp _) (C2.out wx) (fun w' hb => hm wx w' hx hb)
    go_big_quiet_op
    go_big_quiet_on
    go_big_quiet_want
    refine q_fake (.int .i64 (n)) ?_ ?_
    · intro wx hx; exact at_neg2 rfl (by kernel_rfl) n0 n1
    go_big_quiet_op
    go_big_quiet_on
    go_big_quiet_want
    refine q_fake (.bool true) ?_ ?_
    · intro wx hx; exact at_same_eqlN (i := n) rfl (by kernel_rfl) (by kernel_rfl)
    go_big_quiet_op
    go_big_quiet_on
    go_big_quiet_want
    refine q_fake (.bool true) ?_ ?_
    · intro wx hx; exact at_pick rfl (by kernel_rfl) (by kernel_rfl)
    go_big_quiet_op
    go_big_quiet_on
    go_big_quiet_want
    refine q_fake (.bool true) ?_ ?_
    · intro wx hx; exact at_move rfl (by kernel_rfl)
    go_big_quiet_op
    go_big_quiet_on
    go_big_quiet_want
    refine q_fake (.int .i64 (n)) ?_ ?_
    · intro wx hx; exact at_move rfl (by kernel_rfl)
    go_big_quiet_op
    go_big_quiet_on
    go_big_quiet_want
    refine q_fake (.bool false) ?_ ?_
    · intro wx hx; exact hn ▸ at_eqlN (i := n) (j := 0) rfl (by kernel_rfl) (by kernel_rfl)
    go_big_quiet_op
    go_big_quiet_on
    go_big_quiet_want
    refine q_fake (.agg #[.bool p, .string s]) ?_ ?_
    · intro wx hx; exact at_loadI rfl (by kernel_rfl) (k3 wx hx)
    go_big_quiet_op
    go_big_quiet_on
    go_big_quiet_want
    refine q_fake (.agg #[.bool p, .string t]) ?_ ?_
    · intro wx hx; exact at_loadI rfl (by kernel_rfl) (k4 wx hx)
    go_big_quiet_op
    go_big_quiet_on
    go_big_quiet_want
    refine q_fake (.bool false) ?_ ?_
    · intro wx hx; exact (show (p == p && s.toList == t.toList) = false by simp [hst]) ▸ at_eqlI (p := p) (q := p) (s := s) (t := t) rfl (by kernel_rfl) (by kernel_rfl)
    go_big_quiet_op
    go_big_quiet_on
    go_big_quiet_want
    refine q_fake (.bool true) ?_ ?_
    · intro wx hx; exact at_eqlB (i := false) (j := false) rfl (by kernel_rfl) (by kernel_rfl)
    go_big_quiet_op
    go_big_quiet_on
    go_big_quiet_want
    refine q_fake (.bool true) ?_ ?_
    · intro wx hx; exact at_pick rfl (by kernel_rfl) (by kernel_rfl)
    go_big_quiet_op
    go_big_quiet_on
    go_big_quiet_want
    refine q_fake (.bool true) ?_ ?_
    · intro wx hx; exact at_move rfl (by kernel_rfl)
    go_big_quiet_op
    go_big_quiet_on
    go_big_quiet_want
    refine q_fake (.int .i64 (n)) ?_ ?_
    · intro wx hx; exact at_move rfl (by kernel_rfl)
    go_big_quiet_op
    go_big_quiet_on
    go_big_quiet_want
    refine q_fake (.agg #[.bool bD, .string tD]) ?_ ?_
    · intro wx hx; exact at_loadI rfl (by kernel_rfl) (k25 wx hx)
    go_big_quiet_op
    go_big_quiet_on
    go_big_quiet_want
    refine q_fake (.agg #[.bool bZ, .string tZ]) ?_ ?_
    · intro wx hx; exact at_call rfl (by kernel_rfl) (ent_of _) (O0.out wx) (fun w' hb => hm wx w' hx hb)
    go_big_quiet_op
    go_big_quiet_on
    go_big_quiet_want
    refine q_fake (.int .i64 (n)) ?_ ?_
    · intro wx hx; exact at_call rfl (by kernel_rfl) (ent_cmp _) (C3.out wx) (fun w' hb => hm wx w' hx hb)
    go_big_quiet_op
    go_big_quiet_on
    go_big_quiet_want
    refine q_fake (.bool true) ?_ ?_
    · intro wx hx; exact at_same_eqlN (i := n) rfl (by kernel_rfl) (by kernel_rfl)
    go_big_quiet_op
    go_big_quiet_on
    go_big_quiet_want
    refine q_fake (.bool true) ?_ ?_
    · intro wx hx; exact at_pick rfl (by kernel_rfl) (by kernel_rfl)
    go_big_quiet_op
    go_big_quiet_on
    go_big_quiet_want
    refine q_fake (.bool true) ?_ ?_
    · intro wx hx; exact at_move rfl (by kernel_rfl)
    go_big_quiet_op
    go_big_quiet_on
    go_big_quiet_want
    refine q_fake (.agg #[.bool bAB, .string tAB]) ?_ ?_
    · intro wx hx; exact at_loadI rfl (by kernel_rfl) (k7 wx hx)
    go_big_quiet_op
    go_big_quiet_on
    go_big_quiet_want
    refine q_fake (.agg #[.bool bBC, .string tBC]) ?_ ?_
    · intro wx hx; exact at_loadI rfl (by kernel_rfl) (k11 wx hx)
    go_big_quiet_op
    go_big_quiet_on
    go_big_quiet_want
    refine q_fake (.int .i64 m) ?_ ?_
    · intro wx hx; exact at_call rfl (by kernel_rfl) (ent_cmp _) (C4.out wx) (fun w' hb => hm wx w' hx hb)
    go_big_quiet_op
    go_big_quiet_on
    go_big_quiet_want
    refine q_fake (.agg #[.bool p, .string s]) ?_ ?_
    · intro wx hx; exact at_loadI rfl (by kernel_rfl) (k3 wx hx)
    go_big_quiet_op
    go_big_quiet_on
    go_big_quiet_want
    refine q_fake (.agg #[.bool o, .string u]) ?_ ?_
    · intro wx hx; exact at_loadI rfl (by kernel_rfl) (k5 wx hx)
    go_big_quiet_op
    go_big_quiet_on
    go_big_quiet_want
    refine q_fake (.int .i64 m) ?_ ?_
    · intro wx hx; exact at_call rfl (by kernel_rfl) (ent_cmp _) (C5.out wx) (fun w' hb => hm wx w' hx hb)
    go_big_quiet_op
    go_big_quiet_on
    go_big_quiet_want
    refine q_fake (.bool true) ?_ ?_
    · intro wx hx; exact at_same_eqlN (i := m) rfl (by kernel_rfl) (by kernel_rfl)
    go_big_quiet_op
    go_big_quiet_on
    go_big_quiet_want
    refine q_fake (.bool true) ?_ ?_
    · intro wx hx; exact at_pick rfl (by kernel_rfl) (by kernel_rfl)
    go_big_quiet_op
    go_big_quiet_on
    go_big_quiet_want
    refine q_fake (.bool true) ?_ ?_
    · intro wx hx; exact at_assign rfl (by kernel_rfl)
    go_big_quiet_op
    go_big_quiet_on
    refine wpQuiet_nil ?_
    intro wz hz
    have HZ := kv wz hz
    clear hm kv k15 k16 k17 k21 k18 k23 k4 k3 k25 k7 k11 k5 hC0
    rename_i Kx hKx
    show Kx _ wz
    refine hKx _ wz ?_
    first | (go_wp2; go_ret; exact ⟨rfl, HZ⟩) | (show bodyPost Try.prog _ _ .ret _ wz; refine bodyPost_ret (v := .bool true) (by kernel_rfl) rfl ⟨rfl, HZ⟩)

end Go.Proofs.Ytbkbjjdjgiapdaa
