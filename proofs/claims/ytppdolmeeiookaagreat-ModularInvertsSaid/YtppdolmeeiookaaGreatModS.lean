/-
  The contract of modular.steps.
-/
import Derived.Test.YtppdolmeeiookaaGreatModR
import Derived.Test.YtppdolmeeiookaaGreatModO
import Derived.Test.YtppdolmeeiookaaGreatIntN
import Derived.Test.YtppdolmeeiookaaGreatIntM
namespace Go.Proofs.YtppdolmeeiookaaGreat
open Go.RowKit Num

set_option maxHeartbeats 1000000 in
set_option maxRecDepth 100000 in
theorem msteps_core (a m b g rest d V X R : Nat) (z Q : Int) (w : World)
    (F1 : ∀ W, Calls Tryz.prog 76 #[.string (bs b)] W (Made W (.agg #[.bool (zneg ((b : Int))), .string (bs (zabs ((b : Int))))]))) (F2 : ∀ W, Calls Tryz.prog 76 #[.string (bs a)] W (Made W (.agg #[.bool (zneg ((a : Int))), .string (bs (zabs ((a : Int))))]))) (F3 : ∀ W, Calls Tryz.prog 76 #[.string (bs g)] W (Made W (.agg #[.bool (zneg ((g : Int))), .string (bs (zabs ((g : Int))))])))
    (S : ∀ W, Calls Tryz.prog 89 #[(.agg #[.bool (zneg ((b : Int))), .string (bs (zabs ((b : Int))))]), (.agg #[.bool (zneg ((a : Int))), .string (bs (zabs ((a : Int))))])] W (Made W (.tuple #[(.agg #[.bool (zneg z), .string (bs (zabs z))]), .int .i64 0])))
    (D : ∀ W, Calls Tryz.prog 90 #[(.agg #[.bool (zneg z), .string (bs (zabs z))]), (.agg #[.bool (zneg ((g : Int))), .string (bs (zabs ((g : Int))))])] W (Made W (.tuple #[(.agg #[.bool (zneg Q), .string (bs (zabs Q))]), .int .i64 0])))
    (M : ∀ W, Calls Tryz.prog 91 #[(.agg #[.bool (zneg Q), .string (bs (zabs Q))]), .string (bs rest)] W (Made W (.tuple #[.string (bs R), .int .i64 0])))
    (N : ∀ W, Calls Tryz.prog 49 #[.string (bs m), .string (bs g)] W (Made W (.tuple #[.string (bs d), .string (bs 0), .int .i64 0])))
    (I : ∀ W, Calls Tryz.prog 18 #[.string (bs d), .string (bs rest)] W (Made W (.tuple #[.string (bs X), .int .i64 0])))
    (L : ∀ W, Calls Tryz.prog 12 #[.string (bs R), .string (bs X), .string (bs rest)] W (Made W (.tuple #[.string (bs V), .int .i64 0]))) :
    Calls Tryz.prog 51 #[.string (bs a), .string (bs m), .string (bs b), .string (bs g), .string (bs rest)] w (Made w (.string (bs V))) := by
  replace F1 := Lib.hid F1
  replace F2 := Lib.hid F2
  replace F3 := Lib.hid F3
  replace S := Lib.hid S
  replace D := Lib.hid D
  replace M := Lib.hid M
  replace N := Lib.hid N
  replace I := Lib.hid I
  replace L := Lib.hid L
  go_enter Tryz.func51, Tryz.ntmps51
  go_wp2_with fail
  refine (F1.out _).mono ?_
  rintro e w1 ⟨rfl, b1⟩
  go_wp2_with fail
  refine (F2.out _).mono ?_
  rintro e w2 ⟨rfl, b2⟩
  go_wp2_with fail
  refine (S.out _).mono ?_
  rintro e w3 ⟨rfl, b3⟩
  have hB : Below w.heap.size w w3 := (b1.trans (b2.mono b1.size)).trans (b3.mono (Nat.le_trans b1.size b2.size))
  clear b1 b2 b3
  have K : Bk (w3.alloc (.cells #[.bool (zneg z), .string (bs (zabs z))] 24)) w3.heap.size #[.bool (zneg z), .string (bs (zabs z))] 24 := Bk.new _ _ _
  have HV : Below w.heap.size w (w3.alloc (.cells #[.bool (zneg z), .string (bs (zabs z))] 24)) := hB.alloc hB.size _
  obtain ⟨bg, hbg⟩ : ∃ x, x = w3.heap.size := ⟨_, rfl⟩
  have hge : w.heap.size ≤ bg := by rw [hbg]; exact hB.size
  clear hB
  go_wp2_with fail
  rw [← hbg] at K ⊢
  generalize w3.alloc (.cells #[.bool (zneg z), .string (bs (zabs z))] 24) = v1 at *
  clear hbg
  have c0 := K.cell 0
  have c1 := K.cell 1
  have l0 := K.lt
  go_region_with (first | (go_at_call 76; (refine (F3.out _).mono ?_); rintro e pa ⟨rfl, hb⟩; replace K := K.belowD hb; replace HV := HV.drew.trans (hb.mono HV.drew.size); clear hb; have e0 := K.cell 0; have e1 := K.cell 1) | (go_at_call 90; (refine (D.out _).mono ?_); rintro e pb ⟨rfl, hb⟩; replace K := K.below hb; replace HV := HV.trans (hb.mono HV.size); clear hb; have g0 := K.cell 0; have g1 := K.cell 1; have h0 := K.frozen 0; have h1 := K.frozen 1))
  all_goals
    replace K : Bk ((pb.setCell ⟨bg, 0, none⟩ (.bool (zneg Q))).setCell ⟨bg, 1, none⟩ (.string (bs (zabs Q)))) bg #[.bool (zneg Q), .string (bs (zabs Q))] 24 := (K.set 0 _).set 1 _
    replace HV := (HV.setCell (p := ⟨bg, 0, none⟩) hge (.bool (zneg Q))).setCell (p := ⟨bg, 1, none⟩) hge (.string (bs (zabs Q)))
    clear e0 e1 g0 g1 h0 h1
    (try clear c0 c1)
    generalize (pb.setCell ⟨bg, 0, none⟩ (.bool (zneg Q))).setCell ⟨bg, 1, none⟩ (.string (bs (zabs Q))) = v2 at *
    have c0 := K.cell 0
    have c1 := K.cell 1
    go_wp2_with fail
    refine (M.out _).mono ?_
    rintro e u1 ⟨rfl, hb⟩
    replace HV := HV.trans (hb.mono HV.size)
    clear hb c0 c1 K
    go_wp2_with fail
    refine (N.out _).mono ?_
    rintro e u2 ⟨rfl, hb⟩
    replace HV := HV.trans (hb.mono HV.size)
    clear hb
    go_wp2_with fail
    refine (I.out _).mono ?_
    rintro e u3 ⟨rfl, hb⟩
    replace HV := HV.trans (hb.mono HV.size)
    clear hb
    go_wp2_with fail
    refine (L.out _).mono ?_
    rintro e u4 ⟨rfl, hb⟩
    replace HV := HV.trans (hb.mono HV.size)
    clear hb
    go_wp2
    go_ret
    exact ⟨rfl, HV⟩

end Go.Proofs.YtppdolmeeiookaaGreat

