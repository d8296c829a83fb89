/-
  modular.Power for canonical arguments.
-/
import Derived.Test.YtppdolmeeiookaaModR
import Derived.Test.YtppdolmeeiookaaModO
import Derived.Test.YtppdolmeeiookaaBlk
namespace Go.Proofs.Ytppdolmeeiookaa
open Go.RowKit Num

theorem zabs_negnat (n : Nat) : zabs (-(n : Int)) = n := by unfold zabs; omega
theorem zneg_negnat {n : Nat} (h : n ≠ 0) : zneg (-(n : Int)) = true := by unfold zneg; simp; omega

set_option maxHeartbeats 1000000 in
set_option maxRecDepth 100000 in
theorem mpower_pos (a k M : Nat) (w : World) (ha : a < Top) (hk : k < Top) (h0 : M ≠ 0) (hT : M < Top) :
    Calls Try.prog 21 #[.string (bs a), .agg #[.bool false, .string (bs k)], .string (bs M)] w (Made w (.tuple #[.string (bs (a ^ k % M)), .int .i64 0])) := by
  have HV := Lib.hid (fun W => valid_yes ha W)
  have HI : Hid (∀ W, Calls Try.prog 47 #[.agg #[.bool false, .string (bs k)]] W (Made W (.bool true))) := Lib.hid (fun W => by
    have := ivalid_yes (z := (k : Int)) (by rw [zabs_nat]; exact hk) W
    rwa [zabs_nat, zneg_nat] at this)
  have HE := Lib.hid (fun W => mexp_ok a k M W ha hk h0 hT)
  have K := Bk.new w #[.bool false, .string (bs k)] 39
  have HB := (Below.refl w.heap.size w).alloc (Nat.le_refl _) (.cells #[.bool false, .string (bs k)] 39)
  clear ha hk h0 hT
  go_enter Try.func21, Try.ntmps21
  go_wp2_with fail
  refine (HV.out _).mono ?_
  rintro e w' ⟨rfl, rfl⟩
  go_wp2_with fail
  refine (HI.out _).mono ?_
  rintro e u1 ⟨rfl, hb⟩
  replace K := K.below hb
  replace HB := HB.trans (hb.mono HB.size)
  clear hb
  have c0 : u1.cell? ⟨w.heap.size, 0, none⟩ = some (.bool false) := K.cell 0
  have c1 : u1.cell? ⟨w.heap.size, 1, none⟩ = some (.string (bs k)) := K.cell 1
  have l0 := K.lt
  go_wp2_with fail
  refine (HE.out _).mono ?_
  rintro e u2 ⟨rfl, hb⟩
  replace HB := HB.trans (hb.mono HB.size)
  clear hb
  go_wp2
  go_ret2
  exact ⟨rfl, HB⟩

set_option maxHeartbeats 1000000 in
set_option maxRecDepth 100000 in
theorem mpower_inv (a k M X : Nat) (w : World) (ha : a < Top) (hX : X < Top) (hk : k < Top) (hk0 : k ≠ 0) (h0 : M ≠ 0) (hT : M < Top)
    (hI : ∀ W, Calls Try.prog 32 #[.string (bs a), .string (bs M)] W (Made W (.tuple #[.string (bs X), .int .i64 0]))) :
    Calls Try.prog 21 #[.string (bs a), .agg #[.bool true, .string (bs k)], .string (bs M)] w (Made w (.tuple #[.string (bs (X ^ k % M)), .int .i64 0])) := by
  have HV := Lib.hid (fun W => valid_yes ha W)
  have HI : Hid (∀ W, Calls Try.prog 47 #[.agg #[.bool true, .string (bs k)]] W (Made W (.bool true))) := Lib.hid (fun W => by
    have := ivalid_yes (z := -(k : Int)) (by rw [zabs_negnat]; exact hk) W
    rwa [zabs_negnat, zneg_negnat hk0] at this)
  have HN := Lib.hid hI
  have HE := Lib.hid (fun W => mexp_ok X k M W hX hk h0 hT)
  have K := Bk.new w #[.bool true, .string (bs k)] 39
  have HB := (Below.refl w.heap.size w).alloc (Nat.le_refl _) (.cells #[.bool true, .string (bs k)] 39)
  clear ha hX hk hk0 h0 hT hI
  go_enter Try.func21, Try.ntmps21
  go_wp2_with fail
  refine (HV.out _).mono ?_
  rintro e w' ⟨rfl, rfl⟩
  go_wp2_with fail
  refine (HI.out _).mono ?_
  rintro e u1 ⟨rfl, hb⟩
  replace K := K.below hb
  replace HB := HB.trans (hb.mono HB.size)
  clear hb
  have c0 : u1.cell? ⟨w.heap.size, 0, none⟩ = some (.bool true) := K.cell 0
  have c1 : u1.cell? ⟨w.heap.size, 1, none⟩ = some (.string (bs k)) := K.cell 1
  have l0 := K.lt
  go_wp2_with fail
  refine (HN.out _).mono ?_
  rintro e u2 ⟨rfl, hb⟩
  replace K := K.below hb
  replace HB := HB.trans (hb.mono HB.size)
  clear hb
  have c0 : u2.cell? ⟨w.heap.size, 0, none⟩ = some (.bool true) := K.cell 0
  have c1 : u2.cell? ⟨w.heap.size, 1, none⟩ = some (.string (bs k)) := K.cell 1
  have l0 := K.lt
  go_wp2_with fail
  refine (HE.out _).mono ?_
  rintro e u3 ⟨rfl, hb⟩
  replace HB := HB.trans (hb.mono HB.size)
  clear hb
  go_wp2
  go_ret2
  exact ⟨rfl, HB⟩

set_option maxHeartbeats 1000000 in
set_option maxRecDepth 100000 in
theorem mpower_err (a k M : Nat) (ee : Int) (w : World) (ha : a < Top) (hk : k < Top) (hk0 : k ≠ 0) (h1 : ee ≠ 0)
    (hI : ∀ W, Calls Try.prog 32 #[.string (bs a), .string (bs M)] W (Made W (.tuple #[.string (bs 0), .int .i64 ee]))) :
    Calls Try.prog 21 #[.string (bs a), .agg #[.bool true, .string (bs k)], .string (bs M)] w (Made w (.tuple #[.string (bs 0), .int .i64 ee])) := by
  have HV := Lib.hid (fun W => valid_yes ha W)
  have HI : Hid (∀ W, Calls Try.prog 47 #[.agg #[.bool true, .string (bs k)]] W (Made W (.bool true))) := Lib.hid (fun W => by
    have := ivalid_yes (z := -(k : Int)) (by rw [zabs_negnat]; exact hk) W
    rwa [zabs_negnat, zneg_negnat hk0] at this)
  have HN := Lib.hid hI
  have K := Bk.new w #[.bool true, .string (bs k)] 39
  have HB := (Below.refl w.heap.size w).alloc (Nat.le_refl _) (.cells #[.bool true, .string (bs k)] 39)
  clear ha hk hk0 hI
  go_enter Try.func21, Try.ntmps21
  go_wp2_with fail
  refine (HV.out _).mono ?_
  rintro e w' ⟨rfl, rfl⟩
  go_wp2_with fail
  refine (HI.out _).mono ?_
  rintro e u1 ⟨rfl, hb⟩
  replace K := K.below hb
  replace HB := HB.trans (hb.mono HB.size)
  clear hb
  have c0 : u1.cell? ⟨w.heap.size, 0, none⟩ = some (.bool true) := K.cell 0
  have c1 : u1.cell? ⟨w.heap.size, 1, none⟩ = some (.string (bs k)) := K.cell 1
  have l0 := K.lt
  go_wp2_with fail
  refine (HN.out _).mono ?_
  rintro e u2 ⟨rfl, hb⟩
  replace HB := HB.trans (hb.mono HB.size)
  clear hb
  go_wp2
  go_ret2
  exact ⟨by rw [bs_zero]; rfl, HB⟩
end Go.Proofs.Ytppdolmeeiookaa
