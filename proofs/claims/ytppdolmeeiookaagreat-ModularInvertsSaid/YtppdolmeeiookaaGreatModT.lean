/-
  The contract of modular.Join for canonical arguments.
-/
import Derived.Test.YtppdolmeeiookaaGreatModS
import Derived.Test.YtppdolmeeiookaaGreatModN
import Derived.Test.YtppdolmeeiookaaGreatMul
import Derived.Test.YtppdolmeeiookaaGreatNatD
namespace Go.Proofs.YtppdolmeeiookaaGreat
open Go.RowKit Num

set_option maxHeartbeats 1000000 in
set_option maxRecDepth 100000 in
theorem mjoin_none (a m b n g ra rb : Nat) (w : World) (hm : m ≠ 0) (hr : ra ≠ rb)
    (V : ∀ W, Calls Tryz.prog 39 #[.string (bs m)] W (Same W (.bool true)))
    (C : ∀ (W : World) (g : Nat), W.cell? ⟨g, 0, none⟩ = some (.string (bs a)) → W.cell? ⟨g, 1, none⟩ = some (.string (bs b)) → g < W.heap.size → Calls Tryz.prog 24 #[.string (bs n), .slice (some ⟨g, 0, none⟩) 2 2] W (Same W (.int .i64 0)))
    (G : ∀ W, Calls Tryz.prog 48 #[.string (bs m), .string (bs n)] W (Made W (.tuple #[.string (bs g), .int .i64 0])))
    (R1 : ∀ W, Calls Tryz.prog 26 #[.string (bs a), .string (bs g)] W (Made W (.string (bs ra))))
    (R2 : ∀ W, Calls Tryz.prog 26 #[.string (bs b), .string (bs g)] W (Made W (.string (bs rb)))) :
    Calls Tryz.prog 22 #[.string (bs a), .string (bs m), .string (bs b), .string (bs n)] w (Made w (.tuple #[.string (bs 0), .string (bs 0), .int .i64 9])) := by
  replace V := Lib.hid V
  replace C := Lib.hid C
  replace G := Lib.hid G
  replace R1 := Lib.hid R1
  replace R2 := Lib.hid R2
  have hz : (bs m).toList.isEmpty = false := by rw [bs_isEmpty]; exact beq_false_of_ne hm
  have hq : ((bs ra).toList == (bs rb).toList) = false := by rw [bs_beq]; exact beq_false_of_ne hr
  rw [bs_zero]
  clear hm hr
  go_enter Tryz.func22, Tryz.ntmps22
  go_wp2_with fail
  refine (V.out _).mono ?_
  rintro e w0 ⟨rfl, rfl⟩
  go_wp2_with fail
  have K0 := Bk.new w #[.string (bs a), .string (bs b)] 22
  refine (C.out _ _ (K0.cell 0) (K0.cell 1) K0.lt).mono ?_
  rintro e w1 ⟨rfl, rfl⟩
  go_wp2_with fail
  refine (G.out _).mono ?_
  rintro e w2 ⟨rfl, hb2⟩
  have HV : Below w.heap.size w w2 := ((Below.refl _ _).alloc (Nat.le_refl _) _).trans (hb2.mono (by simp))
  clear hb2 K0
  go_wp2_with fail
  refine (R1.out _).mono ?_
  rintro e w3 ⟨rfl, hb⟩
  replace HV := HV.trans (hb.mono HV.size)
  clear hb
  go_wp2_with fail
  refine (R2.out _).mono ?_
  rintro e w4 ⟨rfl, hb⟩
  replace HV := HV.trans (hb.mono HV.size)
  clear hb
  go_wp2
  go_ret3
  exact ⟨rfl, HV⟩

set_option maxHeartbeats 1000000 in
set_option maxRecDepth 100000 in
theorem mjoin_core (a m b n g r rest l am k p x : Nat) (w : World) (hm : m ≠ 0)
    (V : ∀ W, Calls Tryz.prog 39 #[.string (bs m)] W (Same W (.bool true)))
    (C : ∀ (W : World) (g : Nat), W.cell? ⟨g, 0, none⟩ = some (.string (bs a)) → W.cell? ⟨g, 1, none⟩ = some (.string (bs b)) → g < W.heap.size → Calls Tryz.prog 24 #[.string (bs n), .slice (some ⟨g, 0, none⟩) 2 2] W (Same W (.int .i64 0)))
    (G : ∀ W, Calls Tryz.prog 48 #[.string (bs m), .string (bs n)] W (Made W (.tuple #[.string (bs g), .int .i64 0])))
    (R1 : ∀ W, Calls Tryz.prog 26 #[.string (bs a), .string (bs g)] W (Made W (.string (bs r))))
    (R2 : ∀ W, Calls Tryz.prog 26 #[.string (bs b), .string (bs g)] W (Made W (.string (bs r))))
    (D : ∀ W, Calls Tryz.prog 49 #[.string (bs n), .string (bs g)] W (Made W (.tuple #[.string (bs rest), .string (bs 0), .int .i64 0])))
    (L : ∀ W, Calls Tryz.prog 50 #[.string (bs m), .string (bs rest)] W (Made W (.tuple #[.string (bs l), .int .i64 0])))
    (R3 : ∀ W, Calls Tryz.prog 26 #[.string (bs a), .string (bs m)] W (Made W (.string (bs am))))
    (S : ∀ W, Calls Tryz.prog 51 #[.string (bs am), .string (bs m), .string (bs b), .string (bs g), .string (bs rest)] W (Made W (.string (bs k))))
    (P : ∀ W, Calls Tryz.prog 50 #[.string (bs m), .string (bs k)] W (Made W (.tuple #[.string (bs p), .int .i64 0])))
    (X : ∀ W, Calls Tryz.prog 52 #[.string (bs am), .string (bs p)] W (Made W (.tuple #[.string (bs x), .int .i64 0]))) :
    Calls Tryz.prog 22 #[.string (bs a), .string (bs m), .string (bs b), .string (bs n)] w (Made w (.tuple #[.string (bs x), .string (bs l), .int .i64 0])) := by
  replace V := Lib.hid V
  replace C := Lib.hid C
  replace G := Lib.hid G
  replace R1 := Lib.hid R1
  replace R2 := Lib.hid R2
  replace D := Lib.hid D
  replace L := Lib.hid L
  replace R3 := Lib.hid R3
  replace S := Lib.hid S
  replace P := Lib.hid P
  replace X := Lib.hid X
  have hz : (bs m).toList.isEmpty = false := by rw [bs_isEmpty]; exact beq_false_of_ne hm
  clear hm
  go_enter Tryz.func22, Tryz.ntmps22
  go_wp2_with fail
  refine (V.out _).mono ?_
  rintro e w0 ⟨rfl, rfl⟩
  go_wp2_with fail
  have K0 := Bk.new w #[.string (bs a), .string (bs b)] 22
  refine (C.out _ _ (K0.cell 0) (K0.cell 1) K0.lt).mono ?_
  rintro e w1 ⟨rfl, rfl⟩
  go_wp2_with fail
  refine (G.out _).mono ?_
  rintro e w2 ⟨rfl, hb2⟩
  have HV : Below w.heap.size w w2 := ((Below.refl _ _).alloc (Nat.le_refl _) _).trans (hb2.mono (by simp))
  clear hb2 K0
  go_wp2_with fail
  refine (R1.out _).mono ?_
  rintro e w3 ⟨rfl, hb⟩
  replace HV := HV.trans (hb.mono HV.size)
  clear hb
  go_wp2_with fail
  refine (R2.out _).mono ?_
  rintro e w4 ⟨rfl, hb⟩
  replace HV := HV.trans (hb.mono HV.size)
  clear hb
  go_wp2_with fail
  refine (D.out _).mono ?_
  rintro e w5 ⟨rfl, hb⟩
  replace HV := HV.trans (hb.mono HV.size)
  clear hb
  go_wp2_with fail
  refine (L.out _).mono ?_
  rintro e w6 ⟨rfl, hb⟩
  replace HV := HV.trans (hb.mono HV.size)
  clear hb
  go_wp2_with fail
  refine (R3.out _).mono ?_
  rintro e w7 ⟨rfl, hb⟩
  replace HV := HV.trans (hb.mono HV.size)
  clear hb
  go_wp2_with fail
  refine (S.out _).mono ?_
  rintro e w8 ⟨rfl, hb⟩
  replace HV := HV.trans (hb.mono HV.size)
  clear hb
  go_wp2_with fail
  refine (P.out _).mono ?_
  rintro e w9 ⟨rfl, hb⟩
  replace HV := HV.trans (hb.mono HV.size)
  clear hb
  go_wp2_with fail
  refine (X.out _).mono ?_
  rintro e w10 ⟨rfl, hb⟩
  replace HV := HV.trans (hb.mono HV.size)
  clear hb
  go_wp2
  go_ret3
  exact ⟨rfl, HV⟩

end Go.Proofs.YtppdolmeeiookaaGreat
