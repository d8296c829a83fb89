/-
  dominolaw03.few, dominoref03.Mod. An argument that is a struct of two numbers, an integer and a modulus (dominolaw03.Numbers), opened and shut. modular.Power for canonical arguments.
-/
import Derived.Test.YtmiafkbjmkaebaaGreatConM
import Derived.Test.YtmiafkbjmkaebaaGreatBlk
import Derived.Test.YtmiafkbjmkaebaaGreatProg
import Derived.ProofKit
import Derived.ChangeMaps5
import Derived.Lib.SmallJoins
import Derived.Test.YtmiafkbjmkaebaaGreatModR
import Derived.Test.YtmiafkbjmkaebaaGreatModO
namespace Go.Proofs.YtmiafkbjmkaebaaGreat
open Go.RowKit Num

theorem lt_topk {n k : Nat} (h : n < 256 ^ k) (hk : k ≤ 128) : n < Top := Nat.lt_of_lt_of_le h (Nat.pow_le_pow_right (by decide) hk)

set_option maxHeartbeats 400000 in
theorem rmod3 (a m : Nat) (w : World) (ha : a < Top) (hm : m < Top) (h0 : m ≠ 0) : Calls Tryz.prog 91 #[.string (bs a), .string (bs m)] w (Made w (.string (bs (a % m)))) := by
  have HD := Lib.hid (fun W => rdivmod_ok ha hm h0 W)
  clear ha hm h0
  go_enter Tryz.func91, Tryz.ntmps91
  go_wp2_with fail
  refine (HD.out _).mono ?_
  rintro e w1 ⟨rfl, hb1⟩
  go_wp2
  go_ret
  exact ⟨rfl, hb1⟩
end Go.Proofs.YtmiafkbjmkaebaaGreat

namespace Go.Proofs.YtmiafkbjmkaebaaGreat
open Go.RowKit Go.ChangeShapes Go.WideShapes Go.ChangeAt Go.Joins Go.Deep

theorem array5 {α : Type} {cs : Array α} (h : cs.size = 5) : ∃ c0 c1 c2 c3 c4, cs = #[c0, c1, c2, c3, c4] := by
  obtain ⟨l⟩ := cs
  match l, h with
  | [c0, c1, c2, c3, c4], _ => exact ⟨c0, c1, c2, c3, c4, rfl⟩

end Go.Proofs.YtmiafkbjmkaebaaGreat

namespace Go.Proofs.YtmiafkbjmkaebaaGreat
open Go.RowKit Num

theorem zabs_negnat (n : Nat) : zabs (-(n : Int)) = n := by unfold zabs; omega
theorem zneg_negnat {n : Nat} (h : n ≠ 0) : zneg (-(n : Int)) = true := by unfold zneg; simp; omega

set_option maxHeartbeats 1000000 in
set_option maxRecDepth 100000 in
theorem mpower_pos (a k M : Nat) (w : World) (ha : a < Top) (hk : k < Top) (h0 : M ≠ 0) (hT : M < Top) :
    Calls Tryz.prog 42 #[.string (bs a), .agg #[.bool false, .string (bs k)], .string (bs M)] w (Made w (.tuple #[.string (bs (a ^ k % M)), .int .i64 0])) := by
  have HV := Lib.hid (fun W => valid_yes ha W)
  have HI : Hid (∀ W, Calls Tryz.prog 41 #[.agg #[.bool false, .string (bs k)]] W (Made W (.bool true))) := Lib.hid (fun W => by
    have := ivalid_yes (z := (k : Int)) (by rw [zabs_nat]; exact hk) W
    rwa [zabs_nat, zneg_nat] at this)
  have HE := Lib.hid (fun W => mexp_ok a k M W ha hk h0 hT)
  have K := Bk.new w #[.bool false, .string (bs k)] 38
  have HB := (Below.refl w.heap.size w).alloc (Nat.le_refl _) (.cells #[.bool false, .string (bs k)] 38)
  clear ha hk h0 hT
  go_enter Tryz.func42, Tryz.ntmps42
  go_wp2_with fail
  refine (HV.out _).mono ?_
  rintro e w' ⟨rfl, rfl⟩
  go_wp2_with fail
  refine (HI.out _).mono ?_
  rintro e u1 ⟨rfl, hb⟩
  replace K := K.below hb
  replace HB := HB.trans (hb.mono HB.size)
  clear hb
  have c0 : u1.cell? ⟨w.heap.size, 0, none⟩ = some (.bool false) := K.cell 0
  have c1 : u1.cell? ⟨w.heap.size, 1, none⟩ = some (.string (bs k)) := K.cell 1
  have l0 := K.lt
  go_wp2_with fail
  refine (HE.out _).mono ?_
  rintro e u2 ⟨rfl, hb⟩
  replace HB := HB.trans (hb.mono HB.size)
  clear hb
  go_wp2
  go_ret2
  exact ⟨rfl, HB⟩

set_option maxHeartbeats 1000000 in
set_option maxRecDepth 100000 in
theorem mpower_inv (a k M X : Nat) (w : World) (ha : a < Top) (hX : X < Top) (hk : k < Top) (hk0 : k ≠ 0) (h0 : M ≠ 0) (hT : M < Top)
    (hI : ∀ W, Calls Tryz.prog 65 #[.string (bs a), .string (bs M)] W (Made W (.tuple #[.string (bs X), .int .i64 0]))) :
    Calls Tryz.prog 42 #[.string (bs a), .agg #[.bool true, .string (bs k)], .string (bs M)] w (Made w (.tuple #[.string (bs (X ^ k % M)), .int .i64 0])) := by
  have HV := Lib.hid (fun W => valid_yes ha W)
  have HI : Hid (∀ W, Calls Tryz.prog 41 #[.agg #[.bool true, .string (bs k)]] W (Made W (.bool true))) := Lib.hid (fun W => by
    have := ivalid_yes (z := -(k : Int)) (by rw [zabs_negnat]; exact hk) W
    rwa [zabs_negnat, zneg_negnat hk0] at this)
  have HN := Lib.hid hI
  have HE := Lib.hid (fun W => mexp_ok X k M W hX hk h0 hT)
  have K := Bk.new w #[.bool true, .string (bs k)] 38
  have HB := (Below.refl w.heap.size w).alloc (Nat.le_refl _) (.cells #[.bool true, .string (bs k)] 38)
  clear ha hX hk hk0 h0 hT hI
  go_enter Tryz.func42, Tryz.ntmps42
  go_wp2_with fail
  refine (HV.out _).mono ?_
  rintro e w' ⟨rfl, rfl⟩
  go_wp2_with fail
  refine (HI.out _).mono ?_
  rintro e u1 ⟨rfl, hb⟩
  replace K := K.below hb
  replace HB := HB.trans (hb.mono HB.size)
  clear hb
  have c0 : u1.cell? ⟨w.heap.size, 0, none⟩ = some (.bool true) := K.cell 0
  have c1 : u1.cell? ⟨w.heap.size, 1, none⟩ = some (.string (bs k)) := K.cell 1
  have l0 := K.lt
  go_wp2_with fail
  refine (HN.out _).mono ?_
  rintro e u2 ⟨rfl, hb⟩
  replace K := K.below hb
  replace HB := HB.trans (hb.mono HB.size)
  clear hb
  have c0 : u2.cell? ⟨w.heap.size, 0, none⟩ = some (.bool true) := K.cell 0
  have c1 : u2.cell? ⟨w.heap.size, 1, none⟩ = some (.string (bs k)) := K.cell 1
  have l0 := K.lt
  go_wp2_with fail
  refine (HE.out _).mono ?_
  rintro e u3 ⟨rfl, hb⟩
  replace HB := HB.trans (hb.mono HB.size)
  clear hb
  go_wp2
  go_ret2
  exact ⟨rfl, HB⟩

set_option maxHeartbeats 1000000 in
set_option maxRecDepth 100000 in
theorem mpower_err (a k M : Nat) (ee : Int) (w : World) (ha : a < Top) (hk : k < Top) (hk0 : k ≠ 0) (h1 : ee ≠ 0)
    (hI : ∀ W, Calls Tryz.prog 65 #[.string (bs a), .string (bs M)] W (Made W (.tuple #[.string (bs 0), .int .i64 ee]))) :
    Calls Tryz.prog 42 #[.string (bs a), .agg #[.bool true, .string (bs k)], .string (bs M)] w (Made w (.tuple #[.string (bs 0), .int .i64 ee])) := by
  have HV := Lib.hid (fun W => valid_yes ha W)
  have HI : Hid (∀ W, Calls Tryz.prog 41 #[.agg #[.bool true, .string (bs k)]] W (Made W (.bool true))) := Lib.hid (fun W => by
    have := ivalid_yes (z := -(k : Int)) (by rw [zabs_negnat]; exact hk) W
    rwa [zabs_negnat, zneg_negnat hk0] at this)
  have HN := Lib.hid hI
  have K := Bk.new w #[.bool true, .string (bs k)] 38
  have HB := (Below.refl w.heap.size w).alloc (Nat.le_refl _) (.cells #[.bool true, .string (bs k)] 38)
  clear ha hk hk0 hI
  go_enter Tryz.func42, Tryz.ntmps42
  go_wp2_with fail
  refine (HV.out _).mono ?_
  rintro e w' ⟨rfl, rfl⟩
  go_wp2_with fail
  refine (HI.out _).mono ?_
  rintro e u1 ⟨rfl, hb⟩
  replace K := K.below hb
  replace HB := HB.trans (hb.mono HB.size)
  clear hb
  have c0 : u1.cell? ⟨w.heap.size, 0, none⟩ = some (.bool true) := K.cell 0
  have c1 : u1.cell? ⟨w.heap.size, 1, none⟩ = some (.string (bs k)) := K.cell 1
  have l0 := K.lt
  go_wp2_with fail
  refine (HN.out _).mono ?_
  rintro e u2 ⟨rfl, hb⟩
  replace HB := HB.trans (hb.mono HB.size)
  clear hb
  go_wp2
  go_ret2
  exact ⟨by rw [bs_zero]; rfl, HB⟩
end Go.Proofs.YtmiafkbjmkaebaaGreat
