/-
  The examples of the chapter on integers hold: dominolaw02.awake returns true.
-/
import Derived.Test.YtbkbjjdjgiapdaaIntQ
import Derived.Test.YtbkbjjdjgiapdaaIntR
import Derived.Test.YtbkbjjdjgiapdaaIntM
import Derived.Deep.RegionHeld3
namespace Go.Proofs.Ytbkbjjdjgiapdaa
open Go.RowKit Num

theorem lit_top {z : Int} (h : zabs z < 18446744073709551616) : zabs z < Top := top_big h
theorem text12 : textOf 12 = ⟨#[49, 50]⟩ := by
  unfold textOf
  rw [dtext_pos (by decide), dn_pos (by decide), dn_pos (by decide), show 12 / 10 / 10 = 0 from rfl, dn_zero]
  rfl

set_option maxHeartbeats 8000000 in
set_option maxRecDepth 100000 in
theorem iawake_any (w : World) : Calls Try.prog 21 #[] w (Made w (.bool true)) := by
  have HV : Below w.heap.size w w := Below.refl _ _
  have D1 := Lib.hid (fun W => idivmod_ok (x := -7) (y := 2) (lit_top (by decide)) (lit_top (by decide)) (by decide) W)
  rw [show (-7 : Int) / 2 = -4 by decide, show zabs ((-7 : Int) % 2) = 1 by decide] at D1
  have D2 := Lib.hid (fun W => idivmod_ok (x := 7) (y := -2) (lit_top (by decide)) (lit_top (by decide)) (by decide) W)
  rw [show (7 : Int) / -2 = -3 by decide, show zabs ((7 : Int) % -2) = 1 by decide] at D2
  have E1 := Lib.hid (fun W => extended_pos (a := 12) (b := 18) (X := 2) (Y := -1) (by decide) (by decide) (by decide) ⟨by decide, by decide, by decide⟩ W)
  rw [show Nat.gcd 12 18 = 6 by decide] at E1
  have D3 := Lib.hid (fun W => idivide_arg (p := zneg 7) (q := zneg 2) (s := bs (zabs 7)) (t := bs (zabs 2)) (z := (7 : Int) / 2) (r := zabs ((7 : Int) % 2)) (by decide) W (fun W => idivmod_ok (x := 7) (y := 2) (lit_top (by decide)) (lit_top (by decide)) (by decide) W))
  have PA := Lib.hid (fun W => iparse_neg ⟨#[45, 49, 50]⟩ (n := 12) (by decide) (by decide) W (by decide) (fun W => by
    have := parse_text (a := 12) (top_big (by decide)) W
    rw [text12] at this
    exact this))
  rw [show sg true * ((12 : Nat) : Int) = -12 by decide] at PA
  have z1 : (zneg (-12) == zneg 12) = false := rfl
  have OF := Lib.hid (fun (k : Int) (h0 : -9223372036854775808 ≤ k) (h1 : k ≤ 9223372036854775807) W => iof_any k h0 h1 W)
  have NO := Lib.hid (fun (k : Int) (h0 : 0 ≤ k) (h1 : k < 18446744073709551616) W => of_lit k h0 h1 W)
  go_enter Try.func21, Try.ntmps21
  go_wp2_with fail
  refine (OF.out _ (by decide) (by decide) _).mono ?_
  rintro e u1 ⟨rfl, hb⟩
  replace HV := HV.trans (hb.mono HV.size)
  clear hb
  go_wp2_with fail
  refine (OF.out _ (by decide) (by decide) _).mono ?_
  rintro e u2 ⟨rfl, hb⟩
  replace HV := HV.trans (hb.mono HV.size)
  clear hb
  go_wp2_with fail
  refine (D1.out _).mono ?_
  rintro e u3 ⟨rfl, hb⟩
  replace HV := HV.trans (hb.mono HV.size)
  clear hb
  have K1 := Bk.new u3 #[.bool (zneg (-4)), .string (bs (zabs (-4)))] 37
  replace HV := HV.alloc HV.size (.cells #[.bool (zneg (-4)), .string (bs (zabs (-4)))] 37)
  go_wp2_with fail
  refine (OF.out _ (by decide) (by decide) _).mono ?_
  rintro e u4 ⟨rfl, hb⟩
  replace K1 := K1.below hb
  replace HV := HV.trans (hb.mono HV.size)
  clear hb
  go_wp2_with fail
  refine (OF.out _ (by decide) (by decide) _).mono ?_
  rintro e u5 ⟨rfl, hb⟩
  replace K1 := K1.below hb
  replace HV := HV.trans (hb.mono HV.size)
  clear hb
  go_wp2_with fail
  refine (D2.out _).mono ?_
  rintro e u6 ⟨rfl, hb⟩
  replace K1 := K1.below hb
  replace HV := HV.trans (hb.mono HV.size)
  clear hb
  replace K1 := K1.alloc (.cells #[.bool (zneg (-3)), .string (bs (zabs (-3)))] 37)
  have K4 := Bk.new u6 #[.bool (zneg (-3)), .string (bs (zabs (-3)))] 37
  replace HV := HV.alloc HV.size (.cells #[.bool (zneg (-3)), .string (bs (zabs (-3)))] 37)
  go_wp2_with fail
  refine (NO.out _ (by decide) (by decide) _).mono ?_
  rintro e u7 ⟨rfl, hb⟩
  replace K1 := K1.below hb
  replace K4 := K4.below hb
  replace HV := HV.trans (hb.mono HV.size)
  clear hb
  go_wp2_with fail
  refine (NO.out _ (by decide) (by decide) _).mono ?_
  rintro e u8 ⟨rfl, hb⟩
  replace K1 := K1.below hb
  replace K4 := K4.below hb
  replace HV := HV.trans (hb.mono HV.size)
  clear hb
  go_wp2_with fail
  refine (E1.out _).mono ?_
  rintro e u9 ⟨rfl, hb⟩
  replace K1 := K1.below hb
  replace K4 := K4.below hb
  replace HV := HV.trans (hb.mono HV.size)
  clear hb
  replace K1 := (K1.alloc (.cells #[.bool (zneg (2)), .string (bs (zabs (2)))] 37)).alloc (.cells #[.bool (zneg (-1)), .string (bs (zabs (-1)))] 37)
  replace K4 := (K4.alloc (.cells #[.bool (zneg (2)), .string (bs (zabs (2)))] 37)).alloc (.cells #[.bool (zneg (-1)), .string (bs (zabs (-1)))] 37)
  have K8 := (Bk.new u9 #[.bool (zneg (2)), .string (bs (zabs (2)))] 37).alloc (.cells #[.bool (zneg (-1)), .string (bs (zabs (-1)))] 37)
  have K9 := Bk.new1 u9 (.cells #[.bool (zneg (2)), .string (bs (zabs (2)))] 37) #[.bool (zneg (-1)), .string (bs (zabs (-1)))] 37
  replace HV := (HV.alloc HV.size (.cells #[.bool (zneg (2)), .string (bs (zabs (2)))] 37)).alloc (HV.alloc HV.size (.cells #[.bool (zneg (2)), .string (bs (zabs (2)))] 37)).size (.cells #[.bool (zneg (-1)), .string (bs (zabs (-1)))] 37)
  go_wp2_with fail
  refine (OF.out _ (by decide) (by decide) _).mono ?_
  rintro e u10 ⟨rfl, hb⟩
  replace K1 := K1.below hb
  replace K4 := K4.below hb
  replace K8 := K8.below hb
  replace K9 := K9.below hb
  replace HV := HV.trans (hb.mono HV.size)
  clear hb
  go_wp2_with fail
  refine (OF.out _ (by decide) (by decide) _).mono ?_
  rintro e u11 ⟨rfl, hb⟩
  replace K1 := K1.below hb
  replace K4 := K4.below hb
  replace K8 := K8.below hb
  replace K9 := K9.below hb
  replace HV := HV.trans (hb.mono HV.size)
  clear hb
  go_wp2_with fail
  refine (D3.out _).mono ?_
  rintro e u12 ⟨rfl, hb⟩
  replace K1 := K1.below hb
  replace K4 := K4.below hb
  replace K8 := K8.below hb
  replace K9 := K9.below hb
  replace HV := HV.trans (hb.mono HV.size)
  clear hb
  replace K1 := K1.alloc (.cells #[.bool (zneg (0)), .string (bs (zabs (0)))] 37)
  replace K4 := K4.alloc (.cells #[.bool (zneg (0)), .string (bs (zabs (0)))] 37)
  replace K8 := K8.alloc (.cells #[.bool (zneg (0)), .string (bs (zabs (0)))] 37)
  replace K9 := K9.alloc (.cells #[.bool (zneg (0)), .string (bs (zabs (0)))] 37)
  have K11 := Bk.new u12 #[.bool (zneg (0)), .string (bs (zabs (0)))] 37
  replace HV := HV.alloc HV.size (.cells #[.bool (zneg (0)), .string (bs (zabs (0)))] 37)
  go_wp2_with fail
  refine (PA.out _).mono ?_
  rintro e u13 ⟨rfl, hb⟩
  replace K1 := K1.below hb
  replace K4 := K4.below hb
  replace K8 := K8.below hb
  replace K9 := K9.below hb
  replace HV := HV.trans (hb.mono HV.size)
  clear hb
  replace K1 := K1.alloc (.cells #[.bool (zneg (-12)), .string (bs (zabs (-12)))] 37)
  replace K4 := K4.alloc (.cells #[.bool (zneg (-12)), .string (bs (zabs (-12)))] 37)
  replace K8 := K8.alloc (.cells #[.bool (zneg (-12)), .string (bs (zabs (-12)))] 37)
  replace K9 := K9.alloc (.cells #[.bool (zneg (-12)), .string (bs (zabs (-12)))] 37)
  have K13 := Bk.new u13 #[.bool (zneg (-12)), .string (bs (zabs (-12)))] 37
  replace HV := HV.alloc HV.size (.cells #[.bool (zneg (-12)), .string (bs (zabs (-12)))] 37)
  go_upto_region 6 with fail
  generalize u13.alloc (.cells #[.bool (zneg (-12)), .string (bs (zabs (-12)))] 37) = v1 at *
  go_cut [72] from 47 (fun s72 wx => s72 = .bool false ∧ Bk wx (u9.heap.size) #[.bool (zneg (2)), .string (bs (zabs (2)))] 37 ∧ Bk wx (u9.heap.size + 1) #[.bool (zneg (-1)), .string (bs (zabs (-1)))] 37 ∧ Bk wx (u13.heap.size) #[.bool (zneg (-12)), .string (bs (zabs (-12)))] 37 ∧ Below w.heap.size w wx)
  case first =>
    go_region_held3 (fun w' => w'.cell? ⟨u3.heap.size, 0, none⟩ = some (.bool (zneg (-4))) ∧ w'.cell? ⟨u3.heap.size, 1, none⟩ = some (.string (bs (zabs (-4)))) ∧ w'.cell? ⟨u6.heap.size, 0, none⟩ = some (.bool (zneg (-3))) ∧ w'.cell? ⟨u6.heap.size, 1, none⟩ = some (.string (bs (zabs (-3)))) ∧ Bk w' (u3.heap.size) #[.bool (zneg (-4)), .string (bs (zabs (-4)))] 37 ∧ Bk w' (u6.heap.size) #[.bool (zneg (-3)), .string (bs (zabs (-3)))] 37 ∧ Bk w' (u9.heap.size) #[.bool (zneg (2)), .string (bs (zabs (2)))] 37 ∧ Bk w' (u9.heap.size + 1) #[.bool (zneg (-1)), .string (bs (zabs (-1)))] 37 ∧ Bk w' (u13.heap.size) #[.bool (zneg (-12)), .string (bs (zabs (-12)))] 37 ∧ Below w.heap.size w w') (first | assumption | exact ⟨(K1.drew).cell 0, (K1.drew).cell 1, (K4.drew).cell 0, (K4.drew).cell 1, K1.drew, K4.drew, K8.drew, K9.drew, K13.drew, HV.drew⟩) (first | (go_at_call 24; (refine (OF.out _ (by decide) (by decide) _).mono ?_); rintro e pa ⟨rfl, hb⟩; obtain ⟨_, _, _, _, kK1, kK4, kK8, kK9, kK13, hv⟩ := ‹_ ∧ _›; have hSx : pa.cell? ⟨u3.heap.size, 0, none⟩ = some (.bool (zneg (-4))) ∧ pa.cell? ⟨u3.heap.size, 1, none⟩ = some (.string (bs (zabs (-4)))) ∧ pa.cell? ⟨u6.heap.size, 0, none⟩ = some (.bool (zneg (-3))) ∧ pa.cell? ⟨u6.heap.size, 1, none⟩ = some (.string (bs (zabs (-3)))) ∧ Bk pa (u3.heap.size) #[.bool (zneg (-4)), .string (bs (zabs (-4)))] 37 ∧ Bk pa (u6.heap.size) #[.bool (zneg (-3)), .string (bs (zabs (-3)))] 37 ∧ Bk pa (u9.heap.size) #[.bool (zneg (2)), .string (bs (zabs (2)))] 37 ∧ Bk pa (u9.heap.size + 1) #[.bool (zneg (-1)), .string (bs (zabs (-1)))] 37 ∧ Bk pa (u13.heap.size) #[.bool (zneg (-12)), .string (bs (zabs (-12)))] 37 ∧ Below w.heap.size w pa := ⟨(kK1.below hb).cell 0, (kK1.below hb).cell 1, (kK4.below hb).cell 0, (kK4.below hb).cell 1, kK1.below hb, kK4.below hb, kK8.below hb, kK9.below hb, kK13.below hb, hv.trans (hb.mono hv.size)⟩; clear hb hv kK1 kK4 kK8 kK9 kK13) | (go_at_call 56; (refine (NO.out _ (by decide) (by decide) _).mono ?_); rintro e pb ⟨rfl, hb⟩; obtain ⟨_, _, _, _, kK1, kK4, kK8, kK9, kK13, hv⟩ := ‹_ ∧ _›; have hSx : pb.cell? ⟨u3.heap.size, 0, none⟩ = some (.bool (zneg (-4))) ∧ pb.cell? ⟨u3.heap.size, 1, none⟩ = some (.string (bs (zabs (-4)))) ∧ pb.cell? ⟨u6.heap.size, 0, none⟩ = some (.bool (zneg (-3))) ∧ pb.cell? ⟨u6.heap.size, 1, none⟩ = some (.string (bs (zabs (-3)))) ∧ Bk pb (u3.heap.size) #[.bool (zneg (-4)), .string (bs (zabs (-4)))] 37 ∧ Bk pb (u6.heap.size) #[.bool (zneg (-3)), .string (bs (zabs (-3)))] 37 ∧ Bk pb (u9.heap.size) #[.bool (zneg (2)), .string (bs (zabs (2)))] 37 ∧ Bk pb (u9.heap.size + 1) #[.bool (zneg (-1)), .string (bs (zabs (-1)))] 37 ∧ Bk pb (u13.heap.size) #[.bool (zneg (-12)), .string (bs (zabs (-12)))] 37 ∧ Below w.heap.size w pb := ⟨(kK1.below hb).cell 0, (kK1.below hb).cell 1, (kK4.below hb).cell 0, (kK4.below hb).cell 1, kK1.below hb, kK4.below hb, kK8.below hb, kK9.below hb, kK13.below hb, hv.trans (hb.mono hv.size)⟩; clear hb hv kK1 kK4 kK8 kK9 kK13))
    all_goals
      go_wp2_with fail
      go_meet
      obtain ⟨_, _, _, _, _, _, k8, k9, k13, hv⟩ := ‹_ ∧ _›
      exact ⟨rfl, k8, k9, k13, hv⟩
  case rest =>
  clear K1 K4 K8 K9 K13 HV
  obtain ⟨rfl, K8, K9, K13, HV⟩ := hcut
  go_upto_region 8 with fail
  go_cut [0] from 73 (fun s0 wx => s0 = .bool true ∧ Below w.heap.size w wx)
  case first =>
    go_region_held3 (fun w' => w'.cell? ⟨u9.heap.size, 0, none⟩ = some (.bool (zneg (2))) ∧ w'.cell? ⟨u9.heap.size, 1, none⟩ = some (.string (bs (zabs (2)))) ∧ w'.cell? ⟨u9.heap.size + 1, 0, none⟩ = some (.bool (zneg (-1))) ∧ w'.cell? ⟨u9.heap.size + 1, 1, none⟩ = some (.string (bs (zabs (-1)))) ∧ w'.cell? ⟨u13.heap.size, 0, none⟩ = some (.bool (zneg (-12))) ∧ w'.cell? ⟨u13.heap.size, 1, none⟩ = some (.string (bs (zabs (-12)))) ∧ Bk w' (u9.heap.size) #[.bool (zneg (2)), .string (bs (zabs (2)))] 37 ∧ Bk w' (u9.heap.size + 1) #[.bool (zneg (-1)), .string (bs (zabs (-1)))] 37 ∧ Bk w' (u13.heap.size) #[.bool (zneg (-12)), .string (bs (zabs (-12)))] 37 ∧ Below w.heap.size w w') (first | assumption | exact ⟨(K8.drew).cell 0, (K8.drew).cell 1, (K9.drew).cell 0, (K9.drew).cell 1, (K13.drew).cell 0, (K13.drew).cell 1, K8.drew, K9.drew, K13.drew, HV.drew⟩) (first | (go_at_call 24; (refine (OF.out _ (by decide) (by decide) _).mono ?_); rintro e pa ⟨rfl, hb⟩; obtain ⟨_, _, _, _, _, _, kK8, kK9, kK13, hv⟩ := ‹_ ∧ _›; have hSx : pa.cell? ⟨u9.heap.size, 0, none⟩ = some (.bool (zneg (2))) ∧ pa.cell? ⟨u9.heap.size, 1, none⟩ = some (.string (bs (zabs (2)))) ∧ pa.cell? ⟨u9.heap.size + 1, 0, none⟩ = some (.bool (zneg (-1))) ∧ pa.cell? ⟨u9.heap.size + 1, 1, none⟩ = some (.string (bs (zabs (-1)))) ∧ pa.cell? ⟨u13.heap.size, 0, none⟩ = some (.bool (zneg (-12))) ∧ pa.cell? ⟨u13.heap.size, 1, none⟩ = some (.string (bs (zabs (-12)))) ∧ Bk pa (u9.heap.size) #[.bool (zneg (2)), .string (bs (zabs (2)))] 37 ∧ Bk pa (u9.heap.size + 1) #[.bool (zneg (-1)), .string (bs (zabs (-1)))] 37 ∧ Bk pa (u13.heap.size) #[.bool (zneg (-12)), .string (bs (zabs (-12)))] 37 ∧ Below w.heap.size w pa := ⟨(kK8.below hb).cell 0, (kK8.below hb).cell 1, (kK9.below hb).cell 0, (kK9.below hb).cell 1, (kK13.below hb).cell 0, (kK13.below hb).cell 1, kK8.below hb, kK9.below hb, kK13.below hb, hv.trans (hb.mono hv.size)⟩; clear hb hv kK8 kK9 kK13) | (go_at_call 56; (refine (NO.out _ (by decide) (by decide) _).mono ?_); rintro e pb ⟨rfl, hb⟩; obtain ⟨_, _, _, _, _, _, kK8, kK9, kK13, hv⟩ := ‹_ ∧ _›; have hSx : pb.cell? ⟨u9.heap.size, 0, none⟩ = some (.bool (zneg (2))) ∧ pb.cell? ⟨u9.heap.size, 1, none⟩ = some (.string (bs (zabs (2)))) ∧ pb.cell? ⟨u9.heap.size + 1, 0, none⟩ = some (.bool (zneg (-1))) ∧ pb.cell? ⟨u9.heap.size + 1, 1, none⟩ = some (.string (bs (zabs (-1)))) ∧ pb.cell? ⟨u13.heap.size, 0, none⟩ = some (.bool (zneg (-12))) ∧ pb.cell? ⟨u13.heap.size, 1, none⟩ = some (.string (bs (zabs (-12)))) ∧ Bk pb (u9.heap.size) #[.bool (zneg (2)), .string (bs (zabs (2)))] 37 ∧ Bk pb (u9.heap.size + 1) #[.bool (zneg (-1)), .string (bs (zabs (-1)))] 37 ∧ Bk pb (u13.heap.size) #[.bool (zneg (-12)), .string (bs (zabs (-12)))] 37 ∧ Below w.heap.size w pb := ⟨(kK8.below hb).cell 0, (kK8.below hb).cell 1, (kK9.below hb).cell 0, (kK9.below hb).cell 1, (kK13.below hb).cell 0, (kK13.below hb).cell 1, kK8.below hb, kK9.below hb, kK13.below hb, hv.trans (hb.mono hv.size)⟩; clear hb hv kK8 kK9 kK13))
    all_goals
      go_wp2_with fail
      go_meet
      obtain ⟨_, _, _, _, _, _, _, _, _, hv⟩ := ‹_ ∧ _›
      exact ⟨rfl, hv⟩
  case rest =>
  obtain ⟨rfl, HV⟩ := hcut
  go_wp2
  go_ret
  exact ⟨rfl, HV⟩
end Go.Proofs.Ytbkbjjdjgiapdaa
