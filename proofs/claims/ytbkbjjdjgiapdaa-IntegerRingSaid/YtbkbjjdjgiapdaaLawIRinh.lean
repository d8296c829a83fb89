/-
  dominolaw02.IntegerRing returns true for all arguments: the law from its walk.
-/
import Derived.Test.YtbkbjjdjgiapdaaLawIRing
import Derived.Test.YtbkbjjdjgiapdaaLawIEuc
namespace Go.Proofs.Ytbkbjjdjgiapdaa
open Go.RowKit Num

set_option maxHeartbeats 2000000 in
set_option maxRecDepth 100000 in
theorem iring_no1 (p q o : Bool) (s t u : ByteArray) (w : World) (hs : s.size ≤ 9223372036854775807) (ht : t.size ≤ 9223372036854775807) (hu : u.size ≤ 9223372036854775807) (h1 : vI p s = false) :
    Calls Try.prog 11 #[.agg #[.bool p, .string s], .agg #[.bool q, .string t], .agg #[.bool o, .string u]] w (Made w (.bool true)) := by
  have _ := hs
  have _ := ht
  have _ := hu
  have V1 := Lib.hid (fun W => ivalid_no h1 W hs)
  clear h1
  have K3 := ((Bk.new w #[.bool p, .string s] 37).alloc (.cells #[.bool q, .string t] 37)).alloc (.cells #[.bool o, .string u] 37)
  have K4 := (Bk.new1 w (.cells #[.bool p, .string s] 37) #[.bool q, .string t] 37).alloc (.cells #[.bool o, .string u] 37)
  have K5 := Bk.new1 (w.alloc (.cells #[.bool p, .string s] 37)) (.cells #[.bool q, .string t] 37) #[.bool o, .string u] 37
  rw [show (w.alloc (.cells #[.bool p, .string s] 37)).heap.size + 1 = w.heap.size + 1 + 1 from by simp] at K5
  have HV := (((Below.refl w.heap.size w).alloc (Nat.le_refl _) (.cells #[.bool p, .string s] 37)).alloc (by simp) (.cells #[.bool q, .string t] 37)).alloc (by simp; omega) (.cells #[.bool o, .string u] 37)
  go_enter Try.func11, Try.ntmps11
  go_wp2_with fail
  refine (V1.out _).mono ?_
  rintro e u1 ⟨rfl, hb⟩
  replace K3 := K3.below hb
  replace K4 := K4.below hb
  replace K5 := K5.below hb
  replace HV := HV.trans (hb.mono HV.size)
  clear hb
  have zK3a : u1.cell? ⟨w.heap.size, 0, none⟩ = some (.bool p) := K3.cell 0
  have zK3b : u1.cell? ⟨w.heap.size, 1, none⟩ = some (.string s) := K3.cell 1
  have zK3l : w.heap.size < u1.heap.size := K3.lt
  have zK4a : u1.cell? ⟨w.heap.size + 1, 0, none⟩ = some (.bool q) := K4.cell 0
  have zK4b : u1.cell? ⟨w.heap.size + 1, 1, none⟩ = some (.string t) := K4.cell 1
  have zK4l : w.heap.size + 1 < u1.heap.size := K4.lt
  have zK5a : u1.cell? ⟨w.heap.size + 1 + 1, 0, none⟩ = some (.bool o) := K5.cell 0
  have zK5b : u1.cell? ⟨w.heap.size + 1 + 1, 1, none⟩ = some (.string u) := K5.cell 1
  have zK5l : w.heap.size + 1 + 1 < u1.heap.size := K5.lt
  go_wp2_with fail
  refine (iawake_any _).mono ?_
  rintro e ua ⟨rfl, hb⟩
  replace HV := HV.trans (hb.mono HV.size)
  go_wp2
  go_ret
  exact ⟨rfl, HV⟩

set_option maxHeartbeats 2000000 in
set_option maxRecDepth 100000 in
theorem iring_no2 (p q o : Bool) (s t u : ByteArray) (w : World) (hs : s.size ≤ 9223372036854775807) (ht : t.size ≤ 9223372036854775807) (hu : u.size ≤ 9223372036854775807) (h1 : vI p s = true) (h2 : vI q t = false) :
    Calls Try.prog 11 #[.agg #[.bool p, .string s], .agg #[.bool q, .string t], .agg #[.bool o, .string u]] w (Made w (.bool true)) := by
  have _ := hs
  have _ := ht
  have _ := hu
  have V1 : Hid (∀ W, Calls Try.prog 25 #[.agg #[.bool p, .string s]] W (Made W (.bool true))) := Lib.hid (fun W => ivalid_true h1 W hs)
  have V2 := Lib.hid (fun W => ivalid_no h2 W ht)
  clear h1 h2
  have K3 := ((Bk.new w #[.bool p, .string s] 37).alloc (.cells #[.bool q, .string t] 37)).alloc (.cells #[.bool o, .string u] 37)
  have K4 := (Bk.new1 w (.cells #[.bool p, .string s] 37) #[.bool q, .string t] 37).alloc (.cells #[.bool o, .string u] 37)
  have K5 := Bk.new1 (w.alloc (.cells #[.bool p, .string s] 37)) (.cells #[.bool q, .string t] 37) #[.bool o, .string u] 37
  rw [show (w.alloc (.cells #[.bool p, .string s] 37)).heap.size + 1 = w.heap.size + 1 + 1 from by simp] at K5
  have HV := (((Below.refl w.heap.size w).alloc (Nat.le_refl _) (.cells #[.bool p, .string s] 37)).alloc (by simp) (.cells #[.bool q, .string t] 37)).alloc (by simp; omega) (.cells #[.bool o, .string u] 37)
  go_enter Try.func11, Try.ntmps11
  go_wp2_with fail
  refine (V1.out _).mono ?_
  rintro e u1 ⟨rfl, hb⟩
  replace K3 := K3.below hb
  replace K4 := K4.below hb
  replace K5 := K5.below hb
  replace HV := HV.trans (hb.mono HV.size)
  clear hb
  have zK3a : u1.cell? ⟨w.heap.size, 0, none⟩ = some (.bool p) := K3.cell 0
  have zK3b : u1.cell? ⟨w.heap.size, 1, none⟩ = some (.string s) := K3.cell 1
  have zK3l : w.heap.size < u1.heap.size := K3.lt
  have zK4a : u1.cell? ⟨w.heap.size + 1, 0, none⟩ = some (.bool q) := K4.cell 0
  have zK4b : u1.cell? ⟨w.heap.size + 1, 1, none⟩ = some (.string t) := K4.cell 1
  have zK4l : w.heap.size + 1 < u1.heap.size := K4.lt
  have zK5a : u1.cell? ⟨w.heap.size + 1 + 1, 0, none⟩ = some (.bool o) := K5.cell 0
  have zK5b : u1.cell? ⟨w.heap.size + 1 + 1, 1, none⟩ = some (.string u) := K5.cell 1
  have zK5l : w.heap.size + 1 + 1 < u1.heap.size := K5.lt
  go_wp2_with fail
  refine (V2.out _).mono ?_
  rintro e u2 ⟨rfl, hb⟩
  replace K3 := K3.below hb
  replace K4 := K4.below hb
  replace K5 := K5.below hb
  replace HV := HV.trans (hb.mono HV.size)
  clear hb
  clear zK3a zK3b zK3l zK4a zK4b zK4l zK5a zK5b zK5l
  have zK3a : u2.cell? ⟨w.heap.size, 0, none⟩ = some (.bool p) := K3.cell 0
  have zK3b : u2.cell? ⟨w.heap.size, 1, none⟩ = some (.string s) := K3.cell 1
  have zK3l : w.heap.size < u2.heap.size := K3.lt
  have zK4a : u2.cell? ⟨w.heap.size + 1, 0, none⟩ = some (.bool q) := K4.cell 0
  have zK4b : u2.cell? ⟨w.heap.size + 1, 1, none⟩ = some (.string t) := K4.cell 1
  have zK4l : w.heap.size + 1 < u2.heap.size := K4.lt
  have zK5a : u2.cell? ⟨w.heap.size + 1 + 1, 0, none⟩ = some (.bool o) := K5.cell 0
  have zK5b : u2.cell? ⟨w.heap.size + 1 + 1, 1, none⟩ = some (.string u) := K5.cell 1
  have zK5l : w.heap.size + 1 + 1 < u2.heap.size := K5.lt
  go_wp2_with fail
  refine (iawake_any _).mono ?_
  rintro e ua ⟨rfl, hb⟩
  replace HV := HV.trans (hb.mono HV.size)
  go_wp2
  go_ret
  exact ⟨rfl, HV⟩

set_option maxHeartbeats 2000000 in
set_option maxRecDepth 100000 in
theorem iring_no3 (p q o : Bool) (s t u : ByteArray) (w : World) (hs : s.size ≤ 9223372036854775807) (ht : t.size ≤ 9223372036854775807) (hu : u.size ≤ 9223372036854775807) (h1 : vI p s = true) (h2 : vI q t = true) (h3 : vI o u = false) :
    Calls Try.prog 11 #[.agg #[.bool p, .string s], .agg #[.bool q, .string t], .agg #[.bool o, .string u]] w (Made w (.bool true)) := by
  have _ := hs
  have _ := ht
  have _ := hu
  have V1 : Hid (∀ W, Calls Try.prog 25 #[.agg #[.bool p, .string s]] W (Made W (.bool true))) := Lib.hid (fun W => ivalid_true h1 W hs)
  have V2 : Hid (∀ W, Calls Try.prog 25 #[.agg #[.bool q, .string t]] W (Made W (.bool true))) := Lib.hid (fun W => ivalid_true h2 W ht)
  have V3 := Lib.hid (fun W => ivalid_no h3 W hu)
  clear h1 h2 h3
  have K3 := ((Bk.new w #[.bool p, .string s] 37).alloc (.cells #[.bool q, .string t] 37)).alloc (.cells #[.bool o, .string u] 37)
  have K4 := (Bk.new1 w (.cells #[.bool p, .string s] 37) #[.bool q, .string t] 37).alloc (.cells #[.bool o, .string u] 37)
  have K5 := Bk.new1 (w.alloc (.cells #[.bool p, .string s] 37)) (.cells #[.bool q, .string t] 37) #[.bool o, .string u] 37
  rw [show (w.alloc (.cells #[.bool p, .string s] 37)).heap.size + 1 = w.heap.size + 1 + 1 from by simp] at K5
  have HV := (((Below.refl w.heap.size w).alloc (Nat.le_refl _) (.cells #[.bool p, .string s] 37)).alloc (by simp) (.cells #[.bool q, .string t] 37)).alloc (by simp; omega) (.cells #[.bool o, .string u] 37)
  go_enter Try.func11, Try.ntmps11
  go_wp2_with fail
  refine (V1.out _).mono ?_
  rintro e u1 ⟨rfl, hb⟩
  replace K3 := K3.below hb
  replace K4 := K4.below hb
  replace K5 := K5.below hb
  replace HV := HV.trans (hb.mono HV.size)
  clear hb
  have zK3a : u1.cell? ⟨w.heap.size, 0, none⟩ = some (.bool p) := K3.cell 0
  have zK3b : u1.cell? ⟨w.heap.size, 1, none⟩ = some (.string s) := K3.cell 1
  have zK3l : w.heap.size < u1.heap.size := K3.lt
  have zK4a : u1.cell? ⟨w.heap.size + 1, 0, none⟩ = some (.bool q) := K4.cell 0
  have zK4b : u1.cell? ⟨w.heap.size + 1, 1, none⟩ = some (.string t) := K4.cell 1
  have zK4l : w.heap.size + 1 < u1.heap.size := K4.lt
  have zK5a : u1.cell? ⟨w.heap.size + 1 + 1, 0, none⟩ = some (.bool o) := K5.cell 0
  have zK5b : u1.cell? ⟨w.heap.size + 1 + 1, 1, none⟩ = some (.string u) := K5.cell 1
  have zK5l : w.heap.size + 1 + 1 < u1.heap.size := K5.lt
  go_wp2_with fail
  refine (V2.out _).mono ?_
  rintro e u2 ⟨rfl, hb⟩
  replace K3 := K3.below hb
  replace K4 := K4.below hb
  replace K5 := K5.below hb
  replace HV := HV.trans (hb.mono HV.size)
  clear hb
  clear zK3a zK3b zK3l zK4a zK4b zK4l zK5a zK5b zK5l
  have zK3a : u2.cell? ⟨w.heap.size, 0, none⟩ = some (.bool p) := K3.cell 0
  have zK3b : u2.cell? ⟨w.heap.size, 1, none⟩ = some (.string s) := K3.cell 1
  have zK3l : w.heap.size < u2.heap.size := K3.lt
  have zK4a : u2.cell? ⟨w.heap.size + 1, 0, none⟩ = some (.bool q) := K4.cell 0
  have zK4b : u2.cell? ⟨w.heap.size + 1, 1, none⟩ = some (.string t) := K4.cell 1
  have zK4l : w.heap.size + 1 < u2.heap.size := K4.lt
  have zK5a : u2.cell? ⟨w.heap.size + 1 + 1, 0, none⟩ = some (.bool o) := K5.cell 0
  have zK5b : u2.cell? ⟨w.heap.size + 1 + 1, 1, none⟩ = some (.string u) := K5.cell 1
  have zK5l : w.heap.size + 1 + 1 < u2.heap.size := K5.lt
  go_wp2_with fail
  refine (V3.out _).mono ?_
  rintro e u3 ⟨rfl, hb⟩
  replace K3 := K3.below hb
  replace K4 := K4.below hb
  replace K5 := K5.below hb
  replace HV := HV.trans (hb.mono HV.size)
  clear hb
  clear zK3a zK3b zK3l zK4a zK4b zK4l zK5a zK5b zK5l
  have zK3a : u3.cell? ⟨w.heap.size, 0, none⟩ = some (.bool p) := K3.cell 0
  have zK3b : u3.cell? ⟨w.heap.size, 1, none⟩ = some (.string s) := K3.cell 1
  have zK3l : w.heap.size < u3.heap.size := K3.lt
  have zK4a : u3.cell? ⟨w.heap.size + 1, 0, none⟩ = some (.bool q) := K4.cell 0
  have zK4b : u3.cell? ⟨w.heap.size + 1, 1, none⟩ = some (.string t) := K4.cell 1
  have zK4l : w.heap.size + 1 < u3.heap.size := K4.lt
  have zK5a : u3.cell? ⟨w.heap.size + 1 + 1, 0, none⟩ = some (.bool o) := K5.cell 0
  have zK5b : u3.cell? ⟨w.heap.size + 1 + 1, 1, none⟩ = some (.string u) := K5.cell 1
  have zK5l : w.heap.size + 1 + 1 < u3.heap.size := K5.lt
  go_wp2_with fail
  refine (iawake_any _).mono ?_
  rintro e ua ⟨rfl, hb⟩
  replace HV := HV.trans (hb.mono HV.size)
  go_wp2
  go_ret
  exact ⟨rfl, HV⟩

set_option maxHeartbeats 2000000 in
set_option maxRecDepth 100000 in
theorem iring_big1 (p q o : Bool) (s t u : ByteArray) (w : World) (hs : s.size ≤ 9223372036854775807) (ht : t.size ≤ 9223372036854775807) (hu : u.size ≤ 9223372036854775807) (h1 : vI p s = true) (h2 : vI q t = true) (h3 : vI o u = true) (hl : 30 < s.size) :
    Calls Try.prog 11 #[.agg #[.bool p, .string s], .agg #[.bool q, .string t], .agg #[.bool o, .string u]] w (Made w (.bool true)) := by
  have _ := hs
  have _ := ht
  have _ := hu
  have V1 : Hid (∀ W, Calls Try.prog 25 #[.agg #[.bool p, .string s]] W (Made W (.bool true))) := Lib.hid (fun W => ivalid_true h1 W hs)
  have V2 : Hid (∀ W, Calls Try.prog 25 #[.agg #[.bool q, .string t]] W (Made W (.bool true))) := Lib.hid (fun W => ivalid_true h2 W ht)
  have V3 : Hid (∀ W, Calls Try.prog 25 #[.agg #[.bool o, .string u]] W (Made W (.bool true))) := Lib.hid (fun W => ivalid_true h3 W hu)
  clear h1 h2 h3
  have K3 := ((Bk.new w #[.bool p, .string s] 37).alloc (.cells #[.bool q, .string t] 37)).alloc (.cells #[.bool o, .string u] 37)
  have K4 := (Bk.new1 w (.cells #[.bool p, .string s] 37) #[.bool q, .string t] 37).alloc (.cells #[.bool o, .string u] 37)
  have K5 := Bk.new1 (w.alloc (.cells #[.bool p, .string s] 37)) (.cells #[.bool q, .string t] 37) #[.bool o, .string u] 37
  rw [show (w.alloc (.cells #[.bool p, .string s] 37)).heap.size + 1 = w.heap.size + 1 + 1 from by simp] at K5
  have HV := (((Below.refl w.heap.size w).alloc (Nat.le_refl _) (.cells #[.bool p, .string s] 37)).alloc (by simp) (.cells #[.bool q, .string t] 37)).alloc (by simp; omega) (.cells #[.bool o, .string u] 37)
  go_enter Try.func11, Try.ntmps11
  go_wp2_with fail
  refine (V1.out _).mono ?_
  rintro e u1 ⟨rfl, hb⟩
  replace K3 := K3.below hb
  replace K4 := K4.below hb
  replace K5 := K5.below hb
  replace HV := HV.trans (hb.mono HV.size)
  clear hb
  have zK3a : u1.cell? ⟨w.heap.size, 0, none⟩ = some (.bool p) := K3.cell 0
  have zK3b : u1.cell? ⟨w.heap.size, 1, none⟩ = some (.string s) := K3.cell 1
  have zK3l : w.heap.size < u1.heap.size := K3.lt
  have zK4a : u1.cell? ⟨w.heap.size + 1, 0, none⟩ = some (.bool q) := K4.cell 0
  have zK4b : u1.cell? ⟨w.heap.size + 1, 1, none⟩ = some (.string t) := K4.cell 1
  have zK4l : w.heap.size + 1 < u1.heap.size := K4.lt
  have zK5a : u1.cell? ⟨w.heap.size + 1 + 1, 0, none⟩ = some (.bool o) := K5.cell 0
  have zK5b : u1.cell? ⟨w.heap.size + 1 + 1, 1, none⟩ = some (.string u) := K5.cell 1
  have zK5l : w.heap.size + 1 + 1 < u1.heap.size := K5.lt
  go_wp2_with fail
  refine (V2.out _).mono ?_
  rintro e u2 ⟨rfl, hb⟩
  replace K3 := K3.below hb
  replace K4 := K4.below hb
  replace K5 := K5.below hb
  replace HV := HV.trans (hb.mono HV.size)
  clear hb
  clear zK3a zK3b zK3l zK4a zK4b zK4l zK5a zK5b zK5l
  have zK3a : u2.cell? ⟨w.heap.size, 0, none⟩ = some (.bool p) := K3.cell 0
  have zK3b : u2.cell? ⟨w.heap.size, 1, none⟩ = some (.string s) := K3.cell 1
  have zK3l : w.heap.size < u2.heap.size := K3.lt
  have zK4a : u2.cell? ⟨w.heap.size + 1, 0, none⟩ = some (.bool q) := K4.cell 0
  have zK4b : u2.cell? ⟨w.heap.size + 1, 1, none⟩ = some (.string t) := K4.cell 1
  have zK4l : w.heap.size + 1 < u2.heap.size := K4.lt
  have zK5a : u2.cell? ⟨w.heap.size + 1 + 1, 0, none⟩ = some (.bool o) := K5.cell 0
  have zK5b : u2.cell? ⟨w.heap.size + 1 + 1, 1, none⟩ = some (.string u) := K5.cell 1
  have zK5l : w.heap.size + 1 + 1 < u2.heap.size := K5.lt
  go_wp2_with fail
  refine (V3.out _).mono ?_
  rintro e u3 ⟨rfl, hb⟩
  replace K3 := K3.below hb
  replace K4 := K4.below hb
  replace K5 := K5.below hb
  replace HV := HV.trans (hb.mono HV.size)
  clear hb
  clear zK3a zK3b zK3l zK4a zK4b zK4l zK5a zK5b zK5l
  have zK3a : u3.cell? ⟨w.heap.size, 0, none⟩ = some (.bool p) := K3.cell 0
  have zK3b : u3.cell? ⟨w.heap.size, 1, none⟩ = some (.string s) := K3.cell 1
  have zK3l : w.heap.size < u3.heap.size := K3.lt
  have zK4a : u3.cell? ⟨w.heap.size + 1, 0, none⟩ = some (.bool q) := K4.cell 0
  have zK4b : u3.cell? ⟨w.heap.size + 1, 1, none⟩ = some (.string t) := K4.cell 1
  have zK4l : w.heap.size + 1 < u3.heap.size := K4.lt
  have zK5a : u3.cell? ⟨w.heap.size + 1 + 1, 0, none⟩ = some (.bool o) := K5.cell 0
  have zK5b : u3.cell? ⟨w.heap.size + 1 + 1, 1, none⟩ = some (.string u) := K5.cell 1
  have zK5l : w.heap.size + 1 + 1 < u3.heap.size := K5.lt
  go_wp2_with fail
  refine (iawake_any _).mono ?_
  rintro e ua ⟨rfl, hb⟩
  replace HV := HV.trans (hb.mono HV.size)
  go_wp2
  go_ret
  exact ⟨rfl, HV⟩

set_option maxHeartbeats 2000000 in
set_option maxRecDepth 100000 in
theorem iring_big2 (p q o : Bool) (s t u : ByteArray) (w : World) (hs : s.size ≤ 9223372036854775807) (ht : t.size ≤ 9223372036854775807) (hu : u.size ≤ 9223372036854775807) (h1 : vI p s = true) (h2 : vI q t = true) (h3 : vI o u = true) (hm : s.size ≤ 30) (hl : 30 < t.size) :
    Calls Try.prog 11 #[.agg #[.bool p, .string s], .agg #[.bool q, .string t], .agg #[.bool o, .string u]] w (Made w (.bool true)) := by
  have _ := hs
  have _ := ht
  have _ := hu
  have V1 : Hid (∀ W, Calls Try.prog 25 #[.agg #[.bool p, .string s]] W (Made W (.bool true))) := Lib.hid (fun W => ivalid_true h1 W hs)
  have V2 : Hid (∀ W, Calls Try.prog 25 #[.agg #[.bool q, .string t]] W (Made W (.bool true))) := Lib.hid (fun W => ivalid_true h2 W ht)
  have V3 : Hid (∀ W, Calls Try.prog 25 #[.agg #[.bool o, .string u]] W (Made W (.bool true))) := Lib.hid (fun W => ivalid_true h3 W hu)
  clear h1 h2 h3
  have K3 := ((Bk.new w #[.bool p, .string s] 37).alloc (.cells #[.bool q, .string t] 37)).alloc (.cells #[.bool o, .string u] 37)
  have K4 := (Bk.new1 w (.cells #[.bool p, .string s] 37) #[.bool q, .string t] 37).alloc (.cells #[.bool o, .string u] 37)
  have K5 := Bk.new1 (w.alloc (.cells #[.bool p, .string s] 37)) (.cells #[.bool q, .string t] 37) #[.bool o, .string u] 37
  rw [show (w.alloc (.cells #[.bool p, .string s] 37)).heap.size + 1 = w.heap.size + 1 + 1 from by simp] at K5
  have HV := (((Below.refl w.heap.size w).alloc (Nat.le_refl _) (.cells #[.bool p, .string s] 37)).alloc (by simp) (.cells #[.bool q, .string t] 37)).alloc (by simp; omega) (.cells #[.bool o, .string u] 37)
  go_enter Try.func11, Try.ntmps11
  go_wp2_with fail
  refine (V1.out _).mono ?_
  rintro e u1 ⟨rfl, hb⟩
  replace K3 := K3.below hb
  replace K4 := K4.below hb
  replace K5 := K5.below hb
  replace HV := HV.trans (hb.mono HV.size)
  clear hb
  have zK3a : u1.cell? ⟨w.heap.size, 0, none⟩ = some (.bool p) := K3.cell 0
  have zK3b : u1.cell? ⟨w.heap.size, 1, none⟩ = some (.string s) := K3.cell 1
  have zK3l : w.heap.size < u1.heap.size := K3.lt
  have zK4a : u1.cell? ⟨w.heap.size + 1, 0, none⟩ = some (.bool q) := K4.cell 0
  have zK4b : u1.cell? ⟨w.heap.size + 1, 1, none⟩ = some (.string t) := K4.cell 1
  have zK4l : w.heap.size + 1 < u1.heap.size := K4.lt
  have zK5a : u1.cell? ⟨w.heap.size + 1 + 1, 0, none⟩ = some (.bool o) := K5.cell 0
  have zK5b : u1.cell? ⟨w.heap.size + 1 + 1, 1, none⟩ = some (.string u) := K5.cell 1
  have zK5l : w.heap.size + 1 + 1 < u1.heap.size := K5.lt
  go_wp2_with fail
  refine (V2.out _).mono ?_
  rintro e u2 ⟨rfl, hb⟩
  replace K3 := K3.below hb
  replace K4 := K4.below hb
  replace K5 := K5.below hb
  replace HV := HV.trans (hb.mono HV.size)
  clear hb
  clear zK3a zK3b zK3l zK4a zK4b zK4l zK5a zK5b zK5l
  have zK3a : u2.cell? ⟨w.heap.size, 0, none⟩ = some (.bool p) := K3.cell 0
  have zK3b : u2.cell? ⟨w.heap.size, 1, none⟩ = some (.string s) := K3.cell 1
  have zK3l : w.heap.size < u2.heap.size := K3.lt
  have zK4a : u2.cell? ⟨w.heap.size + 1, 0, none⟩ = some (.bool q) := K4.cell 0
  have zK4b : u2.cell? ⟨w.heap.size + 1, 1, none⟩ = some (.string t) := K4.cell 1
  have zK4l : w.heap.size + 1 < u2.heap.size := K4.lt
  have zK5a : u2.cell? ⟨w.heap.size + 1 + 1, 0, none⟩ = some (.bool o) := K5.cell 0
  have zK5b : u2.cell? ⟨w.heap.size + 1 + 1, 1, none⟩ = some (.string u) := K5.cell 1
  have zK5l : w.heap.size + 1 + 1 < u2.heap.size := K5.lt
  go_wp2_with fail
  refine (V3.out _).mono ?_
  rintro e u3 ⟨rfl, hb⟩
  replace K3 := K3.below hb
  replace K4 := K4.below hb
  replace K5 := K5.below hb
  replace HV := HV.trans (hb.mono HV.size)
  clear hb
  clear zK3a zK3b zK3l zK4a zK4b zK4l zK5a zK5b zK5l
  have zK3a : u3.cell? ⟨w.heap.size, 0, none⟩ = some (.bool p) := K3.cell 0
  have zK3b : u3.cell? ⟨w.heap.size, 1, none⟩ = some (.string s) := K3.cell 1
  have zK3l : w.heap.size < u3.heap.size := K3.lt
  have zK4a : u3.cell? ⟨w.heap.size + 1, 0, none⟩ = some (.bool q) := K4.cell 0
  have zK4b : u3.cell? ⟨w.heap.size + 1, 1, none⟩ = some (.string t) := K4.cell 1
  have zK4l : w.heap.size + 1 < u3.heap.size := K4.lt
  have zK5a : u3.cell? ⟨w.heap.size + 1 + 1, 0, none⟩ = some (.bool o) := K5.cell 0
  have zK5b : u3.cell? ⟨w.heap.size + 1 + 1, 1, none⟩ = some (.string u) := K5.cell 1
  have zK5l : w.heap.size + 1 + 1 < u3.heap.size := K5.lt
  go_wp2_with fail
  refine (iawake_any _).mono ?_
  rintro e ua ⟨rfl, hb⟩
  replace HV := HV.trans (hb.mono HV.size)
  go_wp2
  go_ret
  exact ⟨rfl, HV⟩

set_option maxHeartbeats 2000000 in
set_option maxRecDepth 100000 in
theorem iring_big3 (p q o : Bool) (s t u : ByteArray) (w : World) (hs : s.size ≤ 9223372036854775807) (ht : t.size ≤ 9223372036854775807) (hu : u.size ≤ 9223372036854775807) (h1 : vI p s = true) (h2 : vI q t = true) (h3 : vI o u = true) (hm : s.size ≤ 30) (hn : t.size ≤ 30) (hl : 30 < u.size) :
    Calls Try.prog 11 #[.agg #[.bool p, .string s], .agg #[.bool q, .string t], .agg #[.bool o, .string u]] w (Made w (.bool true)) := by
  have _ := hs
  have _ := ht
  have _ := hu
  have V1 : Hid (∀ W, Calls Try.prog 25 #[.agg #[.bool p, .string s]] W (Made W (.bool true))) := Lib.hid (fun W => ivalid_true h1 W hs)
  have V2 : Hid (∀ W, Calls Try.prog 25 #[.agg #[.bool q, .string t]] W (Made W (.bool true))) := Lib.hid (fun W => ivalid_true h2 W ht)
  have V3 : Hid (∀ W, Calls Try.prog 25 #[.agg #[.bool o, .string u]] W (Made W (.bool true))) := Lib.hid (fun W => ivalid_true h3 W hu)
  clear h1 h2 h3
  have K3 := ((Bk.new w #[.bool p, .string s] 37).alloc (.cells #[.bool q, .string t] 37)).alloc (.cells #[.bool o, .string u] 37)
  have K4 := (Bk.new1 w (.cells #[.bool p, .string s] 37) #[.bool q, .string t] 37).alloc (.cells #[.bool o, .string u] 37)
  have K5 := Bk.new1 (w.alloc (.cells #[.bool p, .string s] 37)) (.cells #[.bool q, .string t] 37) #[.bool o, .string u] 37
  rw [show (w.alloc (.cells #[.bool p, .string s] 37)).heap.size + 1 = w.heap.size + 1 + 1 from by simp] at K5
  have HV := (((Below.refl w.heap.size w).alloc (Nat.le_refl _) (.cells #[.bool p, .string s] 37)).alloc (by simp) (.cells #[.bool q, .string t] 37)).alloc (by simp; omega) (.cells #[.bool o, .string u] 37)
  go_enter Try.func11, Try.ntmps11
  go_wp2_with fail
  refine (V1.out _).mono ?_
  rintro e u1 ⟨rfl, hb⟩
  replace K3 := K3.below hb
  replace K4 := K4.below hb
  replace K5 := K5.below hb
  replace HV := HV.trans (hb.mono HV.size)
  clear hb
  have zK3a : u1.cell? ⟨w.heap.size, 0, none⟩ = some (.bool p) := K3.cell 0
  have zK3b : u1.cell? ⟨w.heap.size, 1, none⟩ = some (.string s) := K3.cell 1
  have zK3l : w.heap.size < u1.heap.size := K3.lt
  have zK4a : u1.cell? ⟨w.heap.size + 1, 0, none⟩ = some (.bool q) := K4.cell 0
  have zK4b : u1.cell? ⟨w.heap.size + 1, 1, none⟩ = some (.string t) := K4.cell 1
  have zK4l : w.heap.size + 1 < u1.heap.size := K4.lt
  have zK5a : u1.cell? ⟨w.heap.size + 1 + 1, 0, none⟩ = some (.bool o) := K5.cell 0
  have zK5b : u1.cell? ⟨w.heap.size + 1 + 1, 1, none⟩ = some (.string u) := K5.cell 1
  have zK5l : w.heap.size + 1 + 1 < u1.heap.size := K5.lt
  go_wp2_with fail
  refine (V2.out _).mono ?_
  rintro e u2 ⟨rfl, hb⟩
  replace K3 := K3.below hb
  replace K4 := K4.below hb
  replace K5 := K5.below hb
  replace HV := HV.trans (hb.mono HV.size)
  clear hb
  clear zK3a zK3b zK3l zK4a zK4b zK4l zK5a zK5b zK5l
  have zK3a : u2.cell? ⟨w.heap.size, 0, none⟩ = some (.bool p) := K3.cell 0
  have zK3b : u2.cell? ⟨w.heap.size, 1, none⟩ = some (.string s) := K3.cell 1
  have zK3l : w.heap.size < u2.heap.size := K3.lt
  have zK4a : u2.cell? ⟨w.heap.size + 1, 0, none⟩ = some (.bool q) := K4.cell 0
  have zK4b : u2.cell? ⟨w.heap.size + 1, 1, none⟩ = some (.string t) := K4.cell 1
  have zK4l : w.heap.size + 1 < u2.heap.size := K4.lt
  have zK5a : u2.cell? ⟨w.heap.size + 1 + 1, 0, none⟩ = some (.bool o) := K5.cell 0
  have zK5b : u2.cell? ⟨w.heap.size + 1 + 1, 1, none⟩ = some (.string u) := K5.cell 1
  have zK5l : w.heap.size + 1 + 1 < u2.heap.size := K5.lt
  go_wp2_with fail
  refine (V3.out _).mono ?_
  rintro e u3 ⟨rfl, hb⟩
  replace K3 := K3.below hb
  replace K4 := K4.below hb
  replace K5 := K5.below hb
  replace HV := HV.trans (hb.mono HV.size)
  clear hb
  clear zK3a zK3b zK3l zK4a zK4b zK4l zK5a zK5b zK5l
  have zK3a : u3.cell? ⟨w.heap.size, 0, none⟩ = some (.bool p) := K3.cell 0
  have zK3b : u3.cell? ⟨w.heap.size, 1, none⟩ = some (.string s) := K3.cell 1
  have zK3l : w.heap.size < u3.heap.size := K3.lt
  have zK4a : u3.cell? ⟨w.heap.size + 1, 0, none⟩ = some (.bool q) := K4.cell 0
  have zK4b : u3.cell? ⟨w.heap.size + 1, 1, none⟩ = some (.string t) := K4.cell 1
  have zK4l : w.heap.size + 1 < u3.heap.size := K4.lt
  have zK5a : u3.cell? ⟨w.heap.size + 1 + 1, 0, none⟩ = some (.bool o) := K5.cell 0
  have zK5b : u3.cell? ⟨w.heap.size + 1 + 1, 1, none⟩ = some (.string u) := K5.cell 1
  have zK5l : w.heap.size + 1 + 1 < u3.heap.size := K5.lt
  go_wp2_with fail
  refine (iawake_any _).mono ?_
  rintro e ua ⟨rfl, hb⟩
  replace HV := HV.trans (hb.mono HV.size)
  go_wp2
  go_ret
  exact ⟨rfl, HV⟩

theorem bool_beq {p q : Bool} (h : p ≠ q) : (p == q) = false := by cases p <;> cases q <;> first | rfl | exact absurd rfl h
theorem cmpZ_self (x : Int) : cmpZ x x = 0 := by unfold cmpZ; rw [if_neg (by omega), if_neg (by omega)]
theorem cmpZ_swap (x y : Int) : cmpZ y x = -cmpZ x y := by
  unfold cmpZ
  by_cases h1 : x < y
  · have h2 : ¬ y < x := by omega
    simp [h1, h2]
  · by_cases h2 : y < x
    · simp [h1, h2]
    · simp [h1, h2]
theorem cmpZ_sub (x y : Int) : cmpZ (x - y) 0 = cmpZ x y := by
  unfold cmpZ
  by_cases h1 : x < y
  · rw [if_pos h1, if_pos (by omega)]
  · by_cases h2 : y < x
    · rw [if_neg h1, if_pos h2, if_neg (by omega), if_pos (by omega)]
    · rw [if_neg h1, if_neg h2, if_neg (by omega), if_neg (by omega)]
theorem cmpZ_add (x y z : Int) : cmpZ (x + y) (y + z) = cmpZ x z := by
  rw [← cmpZ_sub, ← cmpZ_sub x z]; congr 1; omega
theorem cmpZ_range (x y : Int) : -1 ≤ cmpZ x y ∧ cmpZ x y ≤ 1 := by
  unfold cmpZ
  by_cases h1 : x < y
  · rw [if_pos h1]; omega
  · rw [if_neg h1]; by_cases h2 : y < x
    · rw [if_pos h2]; omega
    · rw [if_neg h2]; omega
theorem cmpZ_zero {x y : Int} (h : x ≠ y) : (cmpZ x y == 0) = false := by
  unfold cmpZ
  by_cases h1 : x < y
  · rw [if_pos h1]; rfl
  · rw [if_neg h1, if_pos (by omega)]; rfl
theorem z_ext {x y : Int} (h : zneg x = zneg y) (h' : zabs x = zabs y) : x = y := by
  unfold zneg at h; unfold zabs at h'
  rw [decide_eq_decide] at h
  omega
theorem lt_top30 {n : Nat} (h : n < 256 ^ 30) : n < Top := Nat.lt_of_lt_of_le h (by unfold Top; decide)

theorem iring_main {x y z : Int} (hx : zabs x < 256 ^ 30) (hy : zabs y < 256 ^ 30) (hz : zabs z < 256 ^ 30) (w : World) : Calls Try.prog 11 #[(.agg #[.bool (zneg x), .string (bs (zabs x))]), (.agg #[.bool (zneg y), .string (bs (zabs y))]), (.agg #[.bool (zneg z), .string (bs (zabs z))])] w (Made w (.bool true)) := by
  have hxT := lt_top30 hx
  have hyT := lt_top30 hy
  have hzT := lt_top30 hz
  have hT : 256 ^ 30 * (256 ^ 30 + 256 ^ 30) + 256 ^ 30 * 256 ^ 30 < Top := by unfold Top; decide
  have hT3 : 256 ^ 30 + 256 ^ 30 + 256 ^ 30 < Top := by unfold Top; decide
  have hA : zabs (x + y) ≤ zabs x + zabs y := Int.natAbs_add_le x y
  have hB : zabs (y + z) ≤ zabs y + zabs z := Int.natAbs_add_le y z
  have hS : zabs (x + y + z) ≤ zabs (x + y) + zabs z := Int.natAbs_add_le _ z
  have hD : zabs (x - y) ≤ zabs x + zabs y := by unfold zabs; omega
  have hP : zabs (x * (y + z)) < Top := by
    rw [zabs_mul]; exact Nat.lt_of_le_of_lt (Nat.mul_le_mul (Nat.le_of_lt hx) (Nat.le_trans hB (Nat.add_le_add (Nat.le_of_lt hy) (Nat.le_of_lt hz)))) (by omega)
  have hQ : zabs (x * y) < Top := by
    rw [zabs_mul]; exact Nat.lt_of_le_of_lt (Nat.mul_le_mul (Nat.le_of_lt hx) (Nat.le_of_lt hy)) (by omega)
  have hR : zabs (x * z) < Top := by
    rw [zabs_mul]; exact Nat.lt_of_le_of_lt (Nat.mul_le_mul (Nat.le_of_lt hx) (Nat.le_of_lt hz)) (by omega)
  have hr := cmpZ_range x y
  refine iring_core (zneg x) (zneg y) (zneg z) (zneg (x + y)) (zneg (y + z)) (zneg (x + y + z)) (zneg (x * (y + z))) (zneg (x * y)) (zneg (x * z)) (zneg (x - y)) (zneg 0) (bs (zabs x)) (bs (zabs y)) (bs (zabs z)) (bs (zabs (x + y))) (bs (zabs (y + z))) (bs (zabs (x + y + z))) (bs (zabs (x * (y + z)))) (bs (zabs (x * y))) (bs (zabs (x * z))) (bs (zabs (x - y))) (bs (zabs 0)) (cmpZ x y) (cmpZ x z) w (bs_le.2 hx) (bs_le.2 hy) (bs_le.2 hz) hr.1 hr.2 ?_
    (fun W => ivalid_yes hxT W) (fun W => ivalid_yes hyT W) (fun W => ivalid_yes hzT W)
    (fun W => iadd_ok hxT hyT (by omega) W) (fun W => ?_) (fun W => iadd_ok hyT hzT (by omega) W) (fun W => ?_)
    (fun W => iadd_ok (by omega) hzT (by omega) W) (fun W => ?_)
    (fun W => imul_ok hxT (by omega) hP W) (fun W => imul_ok hxT hyT hQ W) (fun W => imul_ok hxT hzT hR W) (fun W => ?_) (fun W => ?_) (fun W => ?_)
    (fun W => icmp_ok hxT hyT W) (fun W => ?_) (fun W => iof_any 0 (by decide) (by decide) W) (fun W => ?_) (fun W => ?_) (fun W => icmp_ok hxT hzT W)
  · by_cases h : x = y
    · subst h; exact .inl ⟨cmpZ_self x, rfl, rfl⟩
    · by_cases h' : zneg x = zneg y
      · refine .inr (.inr ⟨cmpZ_zero h, h', ?_⟩)
        rw [bs_beq]
        exact beq_false_of_ne fun e => h (z_ext h' e)
      · exact .inr (.inl ⟨cmpZ_zero h, bool_beq h'⟩)
  · have := iadd_ok (x := y) (y := x) hyT hxT (by rw [Int.add_comm]; omega) W
    rw [Int.add_comm y x] at this
    exact this
  · have := isub_any (x := x + y) (y := y) (by omega) hyT W
    rw [Int.add_sub_cancel, show addRes x = (x, 0) from if_pos hxT] at this
    exact this
  · have := iadd_ok (x := x) (y := y + z) hxT (by omega) (by rw [← Int.add_assoc]; omega) W
    rw [← Int.add_assoc] at this
    exact this
  · have := iadd_ok (x := x * y) (y := x * z) hQ hR (by rw [← Int.mul_add]; exact hP) W
    rw [← Int.mul_add] at this
    exact this
  · have := imul_ok (x := y) (y := x) hyT hxT (by rw [Int.mul_comm]; exact hQ) W
    rw [Int.mul_comm y x] at this
    exact this
  · have := isub_any (x := x) (y := y) hxT hyT W
    rw [show addRes (x - y) = (x - y, 0) from if_pos (by omega)] at this
    exact this
  · have := icmp_ok (x := y) (y := x) hyT hxT W
    rw [cmpZ_swap] at this
    exact this
  · have := icmp_ok (x := x - y) (y := 0) (by omega) (by unfold zabs Top; decide) W
    rw [cmpZ_sub] at this
    exact this
  · have := icmp_ok (x := x + y) (y := y + z) (by omega) (by omega) W
    rw [cmpZ_add] at this
    exact this

theorem law_iring (p q o : Bool) (s t u : ByteArray) (w : World) (hs : s.size ≤ 9223372036854775807) (ht : t.size ≤ 9223372036854775807) (hu : u.size ≤ 9223372036854775807) :
    Calls Try.prog 11 #[.agg #[.bool p, .string s], .agg #[.bool q, .string t], .agg #[.bool o, .string u]] w (Made w (.bool true)) := by
  rcases h1 : vI p s with _ | _
  · exact iring_no1 p q o s t u w hs ht hu h1
  rcases h2 : vI q t with _ | _
  · exact iring_no2 p q o s t u w hs ht hu h1 h2
  rcases h3 : vI o u with _ | _
  · exact iring_no3 p q o s t u w hs ht hu h1 h2 h3
  by_cases h4 : 30 < s.size
  · exact iring_big1 p q o s t u w hs ht hu h1 h2 h3 h4
  by_cases h5 : 30 < t.size
  · exact iring_big2 p q o s t u w hs ht hu h1 h2 h3 (by omega) h5
  by_cases h6 : 30 < u.size
  · exact iring_big3 p q o s t u w hs ht hu h1 h2 h3 (by omega) (by omega) h6
  obtain ⟨x, hx, rfl, rfl⟩ := vI_of h1
  obtain ⟨y, hy, rfl, rfl⟩ := vI_of h2
  obtain ⟨z, hz, rfl, rfl⟩ := vI_of h3
  exact iring_main (bs_le.1 (by omega)) (bs_le.1 (by omega)) (bs_le.1 (by omega)) w

end Go.Proofs.Ytbkbjjdjgiapdaa
