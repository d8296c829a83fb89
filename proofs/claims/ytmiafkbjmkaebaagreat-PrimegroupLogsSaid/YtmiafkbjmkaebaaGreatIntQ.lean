/-
  The contract of integer.Extended.
-/
import Derived.Test.YtmiafkbjmkaebaaGreatIntP
import Derived.Test.YtmiafkbjmkaebaaGreatBlk
namespace Go.Proofs.YtmiafkbjmkaebaaGreat
open Go.RowKit Num

theorem lt_top60 {n : Nat} (h : n < 256 ^ 60) : n < Top := Nat.lt_of_lt_of_le h (Nat.pow_le_pow_right (by decide) (by decide))
theorem small_top {n m : Nat} (h : n < 256 ^ 60) (hm : m ≤ n + 1) : m < Top := by
  have h1 : (256 : Nat) ^ 60 < Top := Nat.pow_lt_pow_right (by decide) (by decide)
  omega
theorem adv_x {a b r0 r1 : Nat} {x0 x1 y0 y1 : Int} (hb : b < 256 ^ 60) (h : Bz a b r0 r1 x0 x1 y0 y1) (h1 : r1 ≠ 0) (hr : r0 < Top) (W : World) :
    Calls Tryz.prog 121 #[(.agg #[.bool (zneg (x0)), .string (bs (zabs (x0))), .bool (zneg (x1)), .string (bs (zabs (x1)))]), (.agg #[.bool (zneg (((r0 / r1 : Nat) : Int))), .string (bs (zabs (((r0 / r1 : Nat) : Int))))])] W (Made W (.agg #[.bool (zneg (x1)), .string (bs (zabs (x1))), .bool (zneg ((x0 - ((r0 / r1 : Nat) : Int) * x1))), .string (bs (zabs ((x0 - ((r0 / r1 : Nat) : Int) * x1))))])) :=
  advance_ok (small_top hb h.bx) (small_top hb h.cx) (by rw [zabs_nat]; exact Nat.lt_of_le_of_lt (Nat.div_le_self _ _) hr) (small_top hb (Nat.le_succ_of_le (h.prod h1).1)) (small_top hb (h.step h1).cx) W
theorem adv_y {a b r0 r1 : Nat} {x0 x1 y0 y1 : Int} (ha : a < 256 ^ 60) (h : Bz a b r0 r1 x0 x1 y0 y1) (h1 : r1 ≠ 0) (hr : r0 < Top) (W : World) :
    Calls Tryz.prog 121 #[(.agg #[.bool (zneg (y0)), .string (bs (zabs (y0))), .bool (zneg (y1)), .string (bs (zabs (y1)))]), (.agg #[.bool (zneg (((r0 / r1 : Nat) : Int))), .string (bs (zabs (((r0 / r1 : Nat) : Int))))])] W (Made W (.agg #[.bool (zneg (y1)), .string (bs (zabs (y1))), .bool (zneg ((y0 - ((r0 / r1 : Nat) : Int) * y1))), .string (bs (zabs ((y0 - ((r0 / r1 : Nat) : Int) * y1))))])) :=
  advance_ok (small_top ha h.bY) (small_top ha h.cy) (by rw [zabs_nat]; exact Nat.lt_of_le_of_lt (Nat.div_le_self _ _) hr) (small_top ha (Nat.le_succ_of_le (h.prod h1).2)) (small_top ha (h.step h1).cy) W

theorem red_ok {a b r0 : Nat} {x0 x1 y0 y1 X Y : Int} (ha : a < 256 ^ 60) (hb : b < 256 ^ 60) (h0 : b ≠ 0) (h : Bz a b r0 0 x0 x1 y0 y1) (hE : IsExt a b X Y) (W : World) :
    Calls Tryz.prog 123 #[(.agg #[.bool (zneg x0), .string (bs (zabs x0))]), (.agg #[.bool (zneg y0), .string (bs (zabs y0))]), .string (bs a), .string (bs b), .string (bs r0)] W (Made W (.tuple #[(.agg #[.bool (zneg X), .string (bs (zabs X))]), (.agg #[.bool (zneg Y), .string (bs (zabs Y))])])) := by
  obtain ⟨e, l⟩ := h.last
  obtain ⟨hg, ga, gb, hm⟩ := gcd_parts (a := a) h0
  have hx := ext_of h0 l
  obtain ⟨e1, e2⟩ := ext_unique h0 hx hE
  have bx := h.bx
  have by' := h.bY
  have hk : (x0 / ((b / Nat.gcd a b : Nat) : Int)).natAbs ≤ x0.natAbs := Int.natAbs_ediv_le_natAbs _ _
  have hf : a / Nat.gcd a b ≤ a := Nat.div_le_self _ _
  have hgb : Nat.gcd a b ≤ b := Nat.gcd_le_right _ (Nat.pos_of_ne_zero h0)
  have hp : (b + 1) * a ≤ 256 ^ 60 * 256 ^ 60 := Nat.mul_le_mul (by omega) (Nat.le_of_lt ha)
  have hT : 256 ^ 60 * 256 ^ 60 + 256 ^ 60 < Top := by unfold Top; decide
  have hc : (x0 / ((b / Nat.gcd a b : Nat) : Int) * ((a / Nat.gcd a b : Nat) : Int)).natAbs ≤ (b + 1) * a := by
    rw [Int.natAbs_mul]
    exact Nat.mul_le_mul (by omega) hf
  have hs := Int.natAbs_add_le y0 (x0 / ((b / Nat.gcd a b : Nat) : Int) * ((a / Nat.gcd a b : Nat) : Int))
  rw [← e] at *
  have := reduce_ok (x := x0) (y := y0) (a := a) (b := b) (g := r0) (small_top hb bx) (small_top ha by') (lt_top60 ha) (lt_top60 hb) (by have := lt_top60 hb; omega) hg rfl rfl hm (by unfold zabs; have := small_top hb bx; unfold zabs at *; omega) (by unfold zabs; omega) (by unfold zabs; omega) W
  rw [e1, e2] at this
  exact this

def memVal (wr : World) (p : Addr) : Nat := match wr.cell? p with
  | some v => strVal v
  | none => 0

set_option maxHeartbeats 8000000 in
set_option maxRecDepth 100000 in
theorem extended_pos {a b : Nat} (ha : a < 256 ^ 60) (hb : b < 256 ^ 60) (h0 : b ≠ 0) {X Y : Int} (hE : IsExt a b X Y) (w : World) :
    Calls Tryz.prog 96 #[.string (bs a), .string (bs b)] w (Made w (.tuple #[.string (bs (Nat.gcd a b)), (.agg #[.bool (zneg X), .string (bs (zabs X))]), (.agg #[.bool (zneg Y), .string (bs (zabs Y))]), .int .i64 0])) := by
  have haT := lt_top60 ha
  have hbT := lt_top60 hb
  have V1 := Lib.hid (fun W => valid_yes haT W)
  have V2 := Lib.hid (fun W => valid_yes hbT W)
  have O1 := Lib.hid (fun W => iof_any 1 (by decide) (by decide) W)
  have O0 := Lib.hid (fun W => iof_any 0 (by decide) (by decide) W)
  have hbe : (bs b).toList.isEmpty = false := by rw [bs_isEmpty]; simpa using h0
  have HA := Lib.hid ha
  have HBB := Lib.hid hb
  have H0 := Lib.hid h0
  have HEX := Lib.hid hE
  clear ha hb h0 hE haT hbT
  go_enter Tryz.func96, Tryz.ntmps96
  go_wp2_with fail
  refine (V1.out _).mono ?_
  rintro e w' ⟨rfl, rfl⟩
  go_wp2_with fail
  refine (V2.out _).mono ?_
  rintro e w' ⟨rfl, rfl⟩
  have K5 := ((Bk.new w #[.bool false, .string ⟨#[]⟩] 38).alloc (.cells #[.bool false, .string ⟨#[]⟩] 38)).alloc (.cells (#[.string (bs a), .string (bs b)]) 42)
  have K6 := (Bk.new (w.alloc (.cells #[.bool false, .string ⟨#[]⟩] 38)) #[.bool false, .string ⟨#[]⟩] 38).alloc (.cells (#[.string (bs a), .string (bs b)]) 42)
  have K8 := Bk.new ((w.alloc (.cells #[.bool false, .string ⟨#[]⟩] 38)).alloc (.cells #[.bool false, .string ⟨#[]⟩] 38)) (#[.string (bs a), .string (bs b)]) 42
  rw [show (w.alloc (.cells #[.bool false, .string ⟨#[]⟩] 38)).heap.size = w.heap.size + 1 from by simp] at K6
  rw [show ((w.alloc (.cells #[.bool false, .string ⟨#[]⟩] 38)).alloc (.cells #[.bool false, .string ⟨#[]⟩] 38)).heap.size = w.heap.size + 1 + 1 from by simp] at K8
  have HV := (((Below.refl w.heap.size w).alloc (Nat.le_refl _) (.cells #[.bool false, .string ⟨#[]⟩] 38)).alloc (by simp) (.cells #[.bool false, .string ⟨#[]⟩] 38)).alloc (by simp; omega) (.cells (#[.string (bs a), .string (bs b)]) 42)
  go_wp2_with fail
  refine (O1.out _).mono ?_
  rintro e w1 ⟨rfl, hb⟩
  replace K5 := K5.below hb
  replace K6 := K6.below hb
  replace K8 := K8.below hb
  replace HV := HV.trans (hb.mono HV.size)
  clear hb
  go_wp2_with fail
  refine (O0.out _).mono ?_
  rintro e w2 ⟨rfl, hb⟩
  replace K5 := K5.below hb
  replace K6 := K6.below hb
  replace K8 := K8.below hb
  replace HV := HV.trans (hb.mono HV.size)
  clear hb
  have d1 : w.heap.size + 1 + 1 < w2.heap.size := K8.lt
  replace K5 := K5.alloc (.cells (#[.bool (zneg 1), .string (bs (zabs 1)), .bool (zneg 0), .string (bs (zabs 0))]) 138)
  replace K6 := K6.alloc (.cells (#[.bool (zneg 1), .string (bs (zabs 1)), .bool (zneg 0), .string (bs (zabs 0))]) 138)
  replace K8 := K8.alloc (.cells (#[.bool (zneg 1), .string (bs (zabs 1)), .bool (zneg 0), .string (bs (zabs 0))]) 138)
  have K9 := Bk.new w2 (#[.bool (zneg 1), .string (bs (zabs 1)), .bool (zneg 0), .string (bs (zabs 0))]) 138
  replace HV := HV.alloc HV.size (.cells (#[.bool (zneg 1), .string (bs (zabs 1)), .bool (zneg 0), .string (bs (zabs 0))]) 138)
  go_wp2_with fail
  refine (O0.out _).mono ?_
  rintro e w3 ⟨rfl, hb⟩
  replace K5 := K5.below hb
  replace K6 := K6.below hb
  replace K8 := K8.below hb
  replace K9 := K9.below hb
  replace HV := HV.trans (hb.mono HV.size)
  clear hb
  go_wp2_with fail
  refine (O1.out _).mono ?_
  rintro e w4 ⟨rfl, hb⟩
  replace K5 := K5.below hb
  replace K6 := K6.below hb
  replace K8 := K8.below hb
  replace K9 := K9.below hb
  replace HV := HV.trans (hb.mono HV.size)
  clear hb
  have d2 : w2.heap.size < w4.heap.size := K9.lt
  replace K5 := K5.alloc (.cells (#[.bool (zneg 0), .string (bs (zabs 0)), .bool (zneg 1), .string (bs (zabs 1))]) 138)
  replace K6 := K6.alloc (.cells (#[.bool (zneg 0), .string (bs (zabs 0)), .bool (zneg 1), .string (bs (zabs 1))]) 138)
  replace K8 := K8.alloc (.cells (#[.bool (zneg 0), .string (bs (zabs 0)), .bool (zneg 1), .string (bs (zabs 1))]) 138)
  replace K9 := K9.alloc (.cells (#[.bool (zneg 0), .string (bs (zabs 0)), .bool (zneg 1), .string (bs (zabs 1))]) 138)
  have K10 := Bk.new w4 (#[.bool (zneg 0), .string (bs (zabs 0)), .bool (zneg 1), .string (bs (zabs 1))]) 138
  replace HV := HV.alloc HV.size (.cells (#[.bool (zneg 0), .string (bs (zabs 0)), .bool (zneg 1), .string (bs (zabs 1))]) 138)

  go_wp2_with fail
  go_loopw [11] (fun _ wr => ∃ (r0 r1 : Nat) (x0 x1 y0 y1 : Int), Bk wr w.heap.size #[.bool false, .string ⟨#[]⟩] 38 ∧ Bk wr (w.heap.size + 1) #[.bool false, .string ⟨#[]⟩] 38 ∧ Bk wr (w.heap.size + 1 + 1) (#[.string (bs r0), .string (bs r1)]) 42 ∧ Bk wr w2.heap.size (#[.bool (zneg x0), .string (bs (zabs x0)), .bool (zneg x1), .string (bs (zabs x1))]) 138 ∧ Bk wr w4.heap.size (#[.bool (zneg y0), .string (bs (zabs y0)), .bool (zneg y1), .string (bs (zabs y1))]) 138 ∧ Hid (Bz a b r0 r1 x0 x1 y0 y1) ∧ Hid (r0 < Top ∧ r1 < Top) ∧ Below w.heap.size w wr) (fun _ wr => memVal wr ⟨w.heap.size + 1 + 1, 1, none⟩)
  case atStart => exact ⟨a, b, 1, 0, 0, 1, K5, K6, K8, K9, K10, Lib.hid (Bz.start a b), Lib.hid ⟨lt_top60 HA.out, lt_top60 HBB.out⟩, HV⟩
  case round =>
    clear K5 K6 K8 K9 K10 HV
    obtain ⟨r0, r1, x0, x1, y0, y1, K5, K6, K8, K9, K10, HZ, HR, HV⟩ := hrel
    have c80 : wr.cell? ⟨w.heap.size + 1 + 1, 0, none⟩ = some (.string (bs r0)) := K8.cell 0
    have c81 : wr.cell? ⟨w.heap.size + 1 + 1, 1, none⟩ = some (.string (bs r1)) := K8.cell 1
    by_cases h1 : r1 = 0
    · subst h1
      have he : (bs 0).toList.isEmpty = true := by rw [bs_isEmpty]; rfl
      obtain ⟨gg, _⟩ := HZ.out.last
      have GG := Lib.hid gg
      have HRD := Lib.hid (fun W => red_ok HA.out HBB.out H0.out HZ.out HEX.out W)
      clear gg
      have c90 : wr.cell? ⟨w2.heap.size, 0, none⟩ = some (.bool (zneg x0)) := K9.cell 0
      have c91 : wr.cell? ⟨w2.heap.size, 1, none⟩ = some (.string (bs (zabs x0))) := K9.cell 1
      have c100 : wr.cell? ⟨w4.heap.size, 0, none⟩ = some (.bool (zneg y0)) := K10.cell 0
      have c101 : wr.cell? ⟨w4.heap.size, 1, none⟩ = some (.string (bs (zabs y0))) := K10.cell 1
      have l9 : w2.heap.size < wr.heap.size := K9.lt
      have l10 : w4.heap.size < wr.heap.size := K10.lt
      have l9' : w2.heap.size < wr.heap.size + 1 := by omega
      have l10' : w4.heap.size < wr.heap.size + 1 := by omega
      go_upto_region 11 with fail
      go_cut [14, 15] from 59 (fun s14 s15 wx => ∃ g14 g15, s14 = .pointer (some ⟨g14, 0, none⟩) ∧ s15 = .pointer (some ⟨g15, 0, none⟩) ∧ g14 ≠ g15 ∧ w.heap.size + 1 + 1 < g14 ∧ w.heap.size + 1 + 1 < g15 ∧ Bk wx g14 #[.bool (zneg x0), .string (bs (zabs x0))] 38 ∧ Bk wx g15 #[.bool (zneg y0), .string (bs (zabs y0))] 38 ∧ Bk wx w.heap.size #[.bool false, .string ⟨#[]⟩] 38 ∧ Bk wx (w.heap.size + 1) #[.bool false, .string ⟨#[]⟩] 38 ∧ Bk wx (w.heap.size + 1 + 1) (#[.string (bs r0), .string (bs 0)]) 42 ∧ Below w.heap.size w wx)
      case first =>
        go_region
        all_goals
          go_wp2_with fail
          go_meet
          first
            | exact ⟨wr.heap.size, wr.heap.size + 1, rfl, rfl, by omega, by omega, by omega, (Bk.new wr _ _).alloc _, Bk.new1 wr _ _ _, (K5.alloc _).alloc _, (K6.alloc _).alloc _, (K8.alloc _).alloc _, ((HV.alloc HV.size _).alloc (HV.alloc HV.size _).size _).drew⟩
            | exact ⟨wr.heap.size + 1, wr.heap.size, rfl, rfl, by omega, by omega, by omega, Bk.new1 wr _ _ _, (Bk.new wr _ _).alloc _, (K5.alloc _).alloc _, (K6.alloc _).alloc _, (K8.alloc _).alloc _, ((HV.alloc HV.size _).alloc (HV.alloc HV.size _).size _).drew⟩
      case rest =>
      clear K5 K6 K8 K9 K10 HV HZ HR c80 c81 c90 c91 c100 c101 l9 l10 l9' l10'
      obtain ⟨g14, g15, rfl, rfl, n0, n1, n2, KX, KY, K5, K6, K8, HV⟩ := hcut
      have cx0 : wc.cell? ⟨g14, 0, none⟩ = some (.bool (zneg x0)) := KX.cell 0
      have cx1 : wc.cell? ⟨g14, 1, none⟩ = some (.string (bs (zabs x0))) := KX.cell 1
      have cy0 : wc.cell? ⟨g15, 0, none⟩ = some (.bool (zneg y0)) := KY.cell 0
      have cy1 : wc.cell? ⟨g15, 1, none⟩ = some (.string (bs (zabs y0))) := KY.cell 1
      have cr : wc.cell? ⟨w.heap.size + 1 + 1, 0, none⟩ = some (.string (bs r0)) := K8.cell 0
      go_wp2_with fail
      refine (HRD.out _).mono ?_
      rintro e v1 ⟨rfl, hb⟩
      replace KX := KX.below hb
      replace KY := KY.below hb
      replace K5 := K5.below hb
      replace K6 := K6.below hb
      replace K8 := K8.below hb
      replace HV := HV.trans (hb.mono HV.size)
      clear hb cx0 cx1 cy0 cy1 cr
      have cx0 : v1.cell? ⟨g14, 0, none⟩ = some (.bool (zneg x0)) := KX.cell 0
      have cx1 : v1.cell? ⟨g14, 1, none⟩ = some (.string (bs (zabs x0))) := KX.cell 1
      have cy0 : v1.cell? ⟨g15, 0, none⟩ = some (.bool (zneg y0)) := KY.cell 0
      have cy1 : v1.cell? ⟨g15, 1, none⟩ = some (.string (bs (zabs y0))) := KY.cell 1
      have fx0 := KX.frozen 0
      have fx1 := KX.frozen 1
      have fy0 := KY.frozen 0
      have fy1 := KY.frozen 1
      go_upto_region 14 with fail
      have KXn : Bk ((((v1.setCell ⟨g14, 0, none⟩ (.bool (zneg X))).setCell ⟨g14, 1, none⟩ (.string (bs (zabs X)))).setCell ⟨g15, 0, none⟩ (.bool (zneg Y))).setCell ⟨g15, 1, none⟩ (.string (bs (zabs Y)))) g14 #[.bool (zneg X), .string (bs (zabs X))] 38 := ((((KX.set 0 _).set 1 _).far (p := ⟨g15, 0, none⟩) (by show g14 ≠ g15; omega) (.bool (zneg Y))).far (p := ⟨g15, 1, none⟩) (by show g14 ≠ g15; omega) (.string (bs (zabs Y))))
      have KYn : Bk ((((v1.setCell ⟨g14, 0, none⟩ (.bool (zneg X))).setCell ⟨g14, 1, none⟩ (.string (bs (zabs X)))).setCell ⟨g15, 0, none⟩ (.bool (zneg Y))).setCell ⟨g15, 1, none⟩ (.string (bs (zabs Y)))) g15 #[.bool (zneg Y), .string (bs (zabs Y))] 38 := ((((KY.far (p := ⟨g14, 0, none⟩) (by show g15 ≠ g14; omega) (.bool (zneg X))).far (p := ⟨g14, 1, none⟩) (by show g15 ≠ g14; omega) (.string (bs (zabs X)))).set 0 _).set 1 _)
      have K5n := ((((K5.far (p := ⟨g14, 0, none⟩) (by show w.heap.size ≠ g14; omega) (.bool (zneg X))).far (p := ⟨g14, 1, none⟩) (by show w.heap.size ≠ g14; omega) (.string (bs (zabs X)))).far (p := ⟨g15, 0, none⟩) (by show w.heap.size ≠ g15; omega) (.bool (zneg Y))).far (p := ⟨g15, 1, none⟩) (by show w.heap.size ≠ g15; omega) (.string (bs (zabs Y))))
      have K6n := ((((K6.far (p := ⟨g14, 0, none⟩) (by show w.heap.size + 1 ≠ g14; omega) (.bool (zneg X))).far (p := ⟨g14, 1, none⟩) (by show w.heap.size + 1 ≠ g14; omega) (.string (bs (zabs X)))).far (p := ⟨g15, 0, none⟩) (by show w.heap.size + 1 ≠ g15; omega) (.bool (zneg Y))).far (p := ⟨g15, 1, none⟩) (by show w.heap.size + 1 ≠ g15; omega) (.string (bs (zabs Y))))
      have K8n := ((((K8.far (p := ⟨g14, 0, none⟩) (by show w.heap.size + 1 + 1 ≠ g14; omega) (.bool (zneg X))).far (p := ⟨g14, 1, none⟩) (by show w.heap.size + 1 + 1 ≠ g14; omega) (.string (bs (zabs X)))).far (p := ⟨g15, 0, none⟩) (by show w.heap.size + 1 + 1 ≠ g15; omega) (.bool (zneg Y))).far (p := ⟨g15, 1, none⟩) (by show w.heap.size + 1 + 1 ≠ g15; omega) (.string (bs (zabs Y))))
      replace HV := ((((HV.setCell (p := ⟨g14, 0, none⟩) (by show w.heap.size ≤ g14; omega) (.bool (zneg X))).setCell (p := ⟨g14, 1, none⟩) (by show w.heap.size ≤ g14; omega) (.string (bs (zabs X)))).setCell (p := ⟨g15, 0, none⟩) (by show w.heap.size ≤ g15; omega) (.bool (zneg Y))).setCell (p := ⟨g15, 1, none⟩) (by show w.heap.size ≤ g15; omega) (.string (bs (zabs Y))))
      clear cx0 cx1 cy0 cy1 fx0 fx1 fy0 fy1 KX KY K5 K6 K8
      generalize ((((v1.setCell ⟨g14, 0, none⟩ (.bool (zneg X))).setCell ⟨g14, 1, none⟩ (.string (bs (zabs X)))).setCell ⟨g15, 0, none⟩ (.bool (zneg Y))).setCell ⟨g15, 1, none⟩ (.string (bs (zabs Y)))) = v2 at *
      have cx0 : v2.cell? ⟨g14, 0, none⟩ = some (.bool (zneg X)) := KXn.cell 0
      have cx1 : v2.cell? ⟨g14, 1, none⟩ = some (.string (bs (zabs X))) := KXn.cell 1
      have cy0 : v2.cell? ⟨g15, 0, none⟩ = some (.bool (zneg Y)) := KYn.cell 0
      have cy1 : v2.cell? ⟨g15, 1, none⟩ = some (.string (bs (zabs Y))) := KYn.cell 1
      have cr : v2.cell? ⟨w.heap.size + 1 + 1, 0, none⟩ = some (.string (bs r0)) := K8n.cell 0
      have z0 : v2.cell? ⟨w.heap.size, 0, none⟩ = some (.bool false) := K5n.cell 0
      have z1 : v2.cell? ⟨w.heap.size, 1, none⟩ = some (.string ⟨#[]⟩) := K5n.cell 1
      have y0' : v2.cell? ⟨w.heap.size + 1, 0, none⟩ = some (.bool false) := K6n.cell 0
      have y1' : v2.cell? ⟨w.heap.size + 1, 1, none⟩ = some (.string ⟨#[]⟩) := K6n.cell 1
      have fz0 := K5n.frozen 0
      have fz1 := K5n.frozen 1
      have fy0 := K6n.frozen 0
      have fy1 := K6n.frozen 1
      go_region
      all_goals
        go_wp2
        exact bodyPost_ret (v := .tuple #[.string (bs r0), (.agg #[.bool (zneg X), .string (bs (zabs X))]), (.agg #[.bool (zneg Y), .string (bs (zabs Y))]), .int .i64 0]) (by simp [results, Tryz.results96, go_sem, z0, z1, y0', y1']) rfl ⟨by rw [GG.out], ((((HV.setCell (p := ⟨w.heap.size, 0, none⟩) (Nat.le_refl _) _).setCell (p := ⟨w.heap.size, 1, none⟩) (Nat.le_refl _) _).setCell (p := ⟨w.heap.size + 1, 0, none⟩) (Nat.le_succ _) _).setCell (p := ⟨w.heap.size + 1, 1, none⟩) (Nat.le_succ _) _).drew⟩
    · have he : (bs r1).toList.isEmpty = false := by rw [bs_isEmpty]; simpa using h1
      have HQ := Lib.hid (fun W => divmod_ok HR.out.1 HR.out.2 h1 W)
      have HF := Lib.hid (fun W => from_yes (n := r0 / r1) (Nat.lt_of_le_of_lt (Nat.div_le_self _ _) HR.out.1) W)
      have HX := Lib.hid (fun W => adv_x HBB.out HZ.out h1 HR.out.1 W)
      have HY := Lib.hid (fun W => adv_y HA.out HZ.out h1 HR.out.1 W)
      have HZ2 := Lib.hid (HZ.out.step h1)
      have HR2 := Lib.hid (show r1 < Top ∧ r0 % r1 < Top from ⟨HR.out.2, Nat.lt_trans (Nat.mod_lt _ (Nat.pos_of_ne_zero h1)) HR.out.2⟩)
      have HMS := Lib.hid (Nat.mod_lt r0 (Nat.pos_of_ne_zero h1))
      have HM0 := Lib.hid (show memVal wr ⟨w.heap.size + 1 + 1, 1, none⟩ = r1 by unfold memVal; rw [c81]; exact strVal_bs r1)
      obtain ⟨q, hq⟩ : ∃ q, q = r0 / r1 := ⟨_, rfl⟩
      rw [← hq] at HQ HF HX HY HZ2
      obtain ⟨r, hr⟩ : ∃ r, r = r0 % r1 := ⟨_, rfl⟩
      rw [← hr] at HQ HZ2 HR2 HMS
      obtain ⟨x2, hx2⟩ : ∃ x2, x2 = x0 - (q : Int) * x1 := ⟨_, rfl⟩
      obtain ⟨y2, hy2⟩ : ∃ y2, y2 = y0 - (q : Int) * y1 := ⟨_, rfl⟩
      rw [← hx2] at HX HZ2
      rw [← hy2] at HY HZ2
      clear hq hr hx2 hy2 HR HZ
      go_wp2_with fail
      refine (HQ.out _).mono ?_
      rintro e u1 ⟨rfl, hb⟩
      replace K5 := K5.below hb
      replace K6 := K6.below hb
      replace K8 := K8.below hb
      replace K9 := K9.below hb
      replace K10 := K10.below hb
      replace HV := HV.trans (hb.mono HV.size)
      clear hb
      have d80 : u1.cell? ⟨w.heap.size + 1 + 1, 0, none⟩ = some (.string (bs r0)) := K8.cell 0
      have d81 : u1.cell? ⟨w.heap.size + 1 + 1, 1, none⟩ = some (.string (bs r1)) := K8.cell 1
      have ff0 := K8.frozen 0
      have ff1 := K8.frozen 1
      go_upto_region 9 with fail
      replace K5 := (K5.far (p := ⟨w.heap.size + 1 + 1, 0, none⟩) (by show w.heap.size ≠ w.heap.size + 1 + 1; omega) (.string (bs r1))).far (p := ⟨w.heap.size + 1 + 1, 1, none⟩) (by show w.heap.size ≠ w.heap.size + 1 + 1; omega) (.string (bs r))
      replace K6 := (K6.far (p := ⟨w.heap.size + 1 + 1, 0, none⟩) (by show w.heap.size + 1 ≠ w.heap.size + 1 + 1; omega) (.string (bs r1))).far (p := ⟨w.heap.size + 1 + 1, 1, none⟩) (by show w.heap.size + 1 ≠ w.heap.size + 1 + 1; omega) (.string (bs r))
      have K8n : Bk ((u1.setCell ⟨w.heap.size + 1 + 1, 0, none⟩ (.string (bs r1))).setCell ⟨w.heap.size + 1 + 1, 1, none⟩ (.string (bs r))) (w.heap.size + 1 + 1) (#[.string (bs r1), .string (bs r)]) 42 := (K8.set 0 _).set 1 _
      replace K9 := (K9.far (p := ⟨w.heap.size + 1 + 1, 0, none⟩) (by show w2.heap.size ≠ w.heap.size + 1 + 1; omega) (.string (bs r1))).far (p := ⟨w.heap.size + 1 + 1, 1, none⟩) (by show w2.heap.size ≠ w.heap.size + 1 + 1; omega) (.string (bs r))
      replace K10 := (K10.far (p := ⟨w.heap.size + 1 + 1, 0, none⟩) (by show w4.heap.size ≠ w.heap.size + 1 + 1; omega) (.string (bs r1))).far (p := ⟨w.heap.size + 1 + 1, 1, none⟩) (by show w4.heap.size ≠ w.heap.size + 1 + 1; omega) (.string (bs r))
      replace HV := (HV.setCell (p := ⟨w.heap.size + 1 + 1, 0, none⟩) (by show w.heap.size ≤ w.heap.size + 1 + 1; omega) (.string (bs r1))).setCell (p := ⟨w.heap.size + 1 + 1, 1, none⟩) (by show w.heap.size ≤ w.heap.size + 1 + 1; omega) (.string (bs r))
      clear c80 c81 d80 d81 ff0 ff1 K8
      have K8 := K8n
      clear K8n
      generalize ((u1.setCell ⟨w.heap.size + 1 + 1, 0, none⟩ (.string (bs r1))).setCell ⟨w.heap.size + 1 + 1, 1, none⟩ (.string (bs r))) = v1 at *
      have c0 : v1.cell? ⟨w2.heap.size, 0, none⟩ = some (.bool (zneg x0)) := K9.cell 0
      have c1 : v1.cell? ⟨w2.heap.size, 1, none⟩ = some (.string (bs (zabs x0))) := K9.cell 1
      have c2 : v1.cell? ⟨w2.heap.size, 2, none⟩ = some (.bool (zneg x1)) := K9.cell 2
      have c3 : v1.cell? ⟨w2.heap.size, 3, none⟩ = some (.string (bs (zabs x1))) := K9.cell 3
      go_region_with (first | (go_at_call 122; (refine (HF.out _).mono ?_); rintro e pa ⟨rfl, hb⟩; replace K5 := K5.belowD hb; replace K6 := K6.belowD hb; replace K8 := K8.belowD hb; replace K9 := K9.belowD hb; replace K10 := K10.belowD hb; replace HV := HV.drew.trans (hb.mono HV.drew.size); clear hb; have e0 : pa.cell? ⟨w2.heap.size, 0, none⟩ = some (.bool (zneg x0)) := K9.cell 0; have e1 : pa.cell? ⟨w2.heap.size, 1, none⟩ = some (.string (bs (zabs x0))) := K9.cell 1; have e2 : pa.cell? ⟨w2.heap.size, 2, none⟩ = some (.bool (zneg x1)) := K9.cell 2; have e3 : pa.cell? ⟨w2.heap.size, 3, none⟩ = some (.string (bs (zabs x1))) := K9.cell 3; have f0 := K9.frozen 0; have f1 := K9.frozen 1; have f2 := K9.frozen 2; have f3 := K9.frozen 3) | (go_at_call 121; (refine (HX.out _).mono ?_); rintro e pb ⟨rfl, hb⟩; replace K5 := K5.below hb; replace K6 := K6.below hb; replace K8 := K8.below hb; replace K9 := K9.below hb; replace K10 := K10.below hb; replace HV := HV.trans (hb.mono HV.size); clear hb; have g0 : pb.cell? ⟨w2.heap.size, 0, none⟩ = some (.bool (zneg x0)) := K9.cell 0; have g1 : pb.cell? ⟨w2.heap.size, 1, none⟩ = some (.string (bs (zabs x0))) := K9.cell 1; have g2 : pb.cell? ⟨w2.heap.size, 2, none⟩ = some (.bool (zneg x1)) := K9.cell 2; have g3 : pb.cell? ⟨w2.heap.size, 3, none⟩ = some (.string (bs (zabs x1))) := K9.cell 3; have h0 := K9.frozen 0; have h1 := K9.frozen 1; have h2 := K9.frozen 2; have h3 := K9.frozen 3))
      all_goals
        go_upto_region 10 with fail
        have KN : Bk ((((pb.setCell ⟨w2.heap.size, 0, none⟩ (.bool (zneg x1))).setCell ⟨w2.heap.size, 1, none⟩ (.string (bs (zabs x1)))).setCell ⟨w2.heap.size, 2, none⟩ (.bool (zneg (x2)))).setCell ⟨w2.heap.size, 3, none⟩ (.string (bs (zabs (x2))))) (w2.heap.size) (#[.bool (zneg x1), .string (bs (zabs x1)), .bool (zneg x2), .string (bs (zabs x2))]) 138 := (((K9.set 0 _).set 1 _).set 2 _).set 3 _
        replace K5 := ((((K5.far (p := ⟨w2.heap.size, 0, none⟩) (by show w.heap.size ≠ w2.heap.size; omega) (.bool (zneg x1))).far (p := ⟨w2.heap.size, 1, none⟩) (by show w.heap.size ≠ w2.heap.size; omega) (.string (bs (zabs x1)))).far (p := ⟨w2.heap.size, 2, none⟩) (by show w.heap.size ≠ w2.heap.size; omega) (.bool (zneg x2))).far (p := ⟨w2.heap.size, 3, none⟩) (by show w.heap.size ≠ w2.heap.size; omega) (.string (bs (zabs x2))))
        replace K6 := ((((K6.far (p := ⟨w2.heap.size, 0, none⟩) (by show w.heap.size + 1 ≠ w2.heap.size; omega) (.bool (zneg x1))).far (p := ⟨w2.heap.size, 1, none⟩) (by show w.heap.size + 1 ≠ w2.heap.size; omega) (.string (bs (zabs x1)))).far (p := ⟨w2.heap.size, 2, none⟩) (by show w.heap.size + 1 ≠ w2.heap.size; omega) (.bool (zneg x2))).far (p := ⟨w2.heap.size, 3, none⟩) (by show w.heap.size + 1 ≠ w2.heap.size; omega) (.string (bs (zabs x2))))
        replace K8 := ((((K8.far (p := ⟨w2.heap.size, 0, none⟩) (by show w.heap.size + 1 + 1 ≠ w2.heap.size; omega) (.bool (zneg x1))).far (p := ⟨w2.heap.size, 1, none⟩) (by show w.heap.size + 1 + 1 ≠ w2.heap.size; omega) (.string (bs (zabs x1)))).far (p := ⟨w2.heap.size, 2, none⟩) (by show w.heap.size + 1 + 1 ≠ w2.heap.size; omega) (.bool (zneg x2))).far (p := ⟨w2.heap.size, 3, none⟩) (by show w.heap.size + 1 + 1 ≠ w2.heap.size; omega) (.string (bs (zabs x2))))
        replace K10 := ((((K10.far (p := ⟨w2.heap.size, 0, none⟩) (by show w4.heap.size ≠ w2.heap.size; omega) (.bool (zneg x1))).far (p := ⟨w2.heap.size, 1, none⟩) (by show w4.heap.size ≠ w2.heap.size; omega) (.string (bs (zabs x1)))).far (p := ⟨w2.heap.size, 2, none⟩) (by show w4.heap.size ≠ w2.heap.size; omega) (.bool (zneg x2))).far (p := ⟨w2.heap.size, 3, none⟩) (by show w4.heap.size ≠ w2.heap.size; omega) (.string (bs (zabs x2))))
        replace HV := ((((HV.setCell (p := ⟨w2.heap.size, 0, none⟩) (by show w.heap.size ≤ w2.heap.size; omega) (.bool (zneg x1))).setCell (p := ⟨w2.heap.size, 1, none⟩) (by show w.heap.size ≤ w2.heap.size; omega) (.string (bs (zabs x1)))).setCell (p := ⟨w2.heap.size, 2, none⟩) (by show w.heap.size ≤ w2.heap.size; omega) (.bool (zneg x2))).setCell (p := ⟨w2.heap.size, 3, none⟩) (by show w.heap.size ≤ w2.heap.size; omega) (.string (bs (zabs x2))))
        clear K9
        have K9 := KN
        clear KN
        generalize ((((pb.setCell ⟨w2.heap.size, 0, none⟩ (.bool (zneg x1))).setCell ⟨w2.heap.size, 1, none⟩ (.string (bs (zabs x1)))).setCell ⟨w2.heap.size, 2, none⟩ (.bool (zneg (x2)))).setCell ⟨w2.heap.size, 3, none⟩ (.string (bs (zabs (x2))))) = v2 at *
        have c0 : v2.cell? ⟨w4.heap.size, 0, none⟩ = some (.bool (zneg y0)) := K10.cell 0
        have c1 : v2.cell? ⟨w4.heap.size, 1, none⟩ = some (.string (bs (zabs y0))) := K10.cell 1
        have c2 : v2.cell? ⟨w4.heap.size, 2, none⟩ = some (.bool (zneg y1)) := K10.cell 2
        have c3 : v2.cell? ⟨w4.heap.size, 3, none⟩ = some (.string (bs (zabs y1))) := K10.cell 3
        go_region_with (first | (go_at_call 122; (refine (HF.out _).mono ?_); rintro e sa ⟨rfl, hb⟩; replace K5 := K5.belowD hb; replace K6 := K6.belowD hb; replace K8 := K8.belowD hb; replace K9 := K9.belowD hb; replace K10 := K10.belowD hb; replace HV := HV.drew.trans (hb.mono HV.drew.size); clear hb; have e0 : sa.cell? ⟨w4.heap.size, 0, none⟩ = some (.bool (zneg y0)) := K10.cell 0; have e1 : sa.cell? ⟨w4.heap.size, 1, none⟩ = some (.string (bs (zabs y0))) := K10.cell 1; have e2 : sa.cell? ⟨w4.heap.size, 2, none⟩ = some (.bool (zneg y1)) := K10.cell 2; have e3 : sa.cell? ⟨w4.heap.size, 3, none⟩ = some (.string (bs (zabs y1))) := K10.cell 3; have f0 := K10.frozen 0; have f1 := K10.frozen 1; have f2 := K10.frozen 2; have f3 := K10.frozen 3) | (go_at_call 121; (refine (HY.out _).mono ?_); rintro e sb ⟨rfl, hb⟩; replace K5 := K5.below hb; replace K6 := K6.below hb; replace K8 := K8.below hb; replace K9 := K9.below hb; replace K10 := K10.below hb; replace HV := HV.trans (hb.mono HV.size); clear hb; have g0 : sb.cell? ⟨w4.heap.size, 0, none⟩ = some (.bool (zneg y0)) := K10.cell 0; have g1 : sb.cell? ⟨w4.heap.size, 1, none⟩ = some (.string (bs (zabs y0))) := K10.cell 1; have g2 : sb.cell? ⟨w4.heap.size, 2, none⟩ = some (.bool (zneg y1)) := K10.cell 2; have g3 : sb.cell? ⟨w4.heap.size, 3, none⟩ = some (.string (bs (zabs y1))) := K10.cell 3; have h0 := K10.frozen 0; have h1 := K10.frozen 1; have h2 := K10.frozen 2; have h3 := K10.frozen 3))
        all_goals
          have KN : Bk ((((sb.setCell ⟨w4.heap.size, 0, none⟩ (.bool (zneg y1))).setCell ⟨w4.heap.size, 1, none⟩ (.string (bs (zabs y1)))).setCell ⟨w4.heap.size, 2, none⟩ (.bool (zneg (y2)))).setCell ⟨w4.heap.size, 3, none⟩ (.string (bs (zabs (y2))))) (w4.heap.size) (#[.bool (zneg y1), .string (bs (zabs y1)), .bool (zneg y2), .string (bs (zabs y2))]) 138 := (((K10.set 0 _).set 1 _).set 2 _).set 3 _
          replace K5 := ((((K5.far (p := ⟨w4.heap.size, 0, none⟩) (by show w.heap.size ≠ w4.heap.size; omega) (.bool (zneg y1))).far (p := ⟨w4.heap.size, 1, none⟩) (by show w.heap.size ≠ w4.heap.size; omega) (.string (bs (zabs y1)))).far (p := ⟨w4.heap.size, 2, none⟩) (by show w.heap.size ≠ w4.heap.size; omega) (.bool (zneg y2))).far (p := ⟨w4.heap.size, 3, none⟩) (by show w.heap.size ≠ w4.heap.size; omega) (.string (bs (zabs y2))))
          replace K6 := ((((K6.far (p := ⟨w4.heap.size, 0, none⟩) (by show w.heap.size + 1 ≠ w4.heap.size; omega) (.bool (zneg y1))).far (p := ⟨w4.heap.size, 1, none⟩) (by show w.heap.size + 1 ≠ w4.heap.size; omega) (.string (bs (zabs y1)))).far (p := ⟨w4.heap.size, 2, none⟩) (by show w.heap.size + 1 ≠ w4.heap.size; omega) (.bool (zneg y2))).far (p := ⟨w4.heap.size, 3, none⟩) (by show w.heap.size + 1 ≠ w4.heap.size; omega) (.string (bs (zabs y2))))
          replace K8 := ((((K8.far (p := ⟨w4.heap.size, 0, none⟩) (by show w.heap.size + 1 + 1 ≠ w4.heap.size; omega) (.bool (zneg y1))).far (p := ⟨w4.heap.size, 1, none⟩) (by show w.heap.size + 1 + 1 ≠ w4.heap.size; omega) (.string (bs (zabs y1)))).far (p := ⟨w4.heap.size, 2, none⟩) (by show w.heap.size + 1 + 1 ≠ w4.heap.size; omega) (.bool (zneg y2))).far (p := ⟨w4.heap.size, 3, none⟩) (by show w.heap.size + 1 + 1 ≠ w4.heap.size; omega) (.string (bs (zabs y2))))
          replace K9 := ((((K9.far (p := ⟨w4.heap.size, 0, none⟩) (by show w2.heap.size ≠ w4.heap.size; omega) (.bool (zneg y1))).far (p := ⟨w4.heap.size, 1, none⟩) (by show w2.heap.size ≠ w4.heap.size; omega) (.string (bs (zabs y1)))).far (p := ⟨w4.heap.size, 2, none⟩) (by show w2.heap.size ≠ w4.heap.size; omega) (.bool (zneg y2))).far (p := ⟨w4.heap.size, 3, none⟩) (by show w2.heap.size ≠ w4.heap.size; omega) (.string (bs (zabs y2))))
          replace HV := ((((HV.setCell (p := ⟨w4.heap.size, 0, none⟩) (by show w.heap.size ≤ w4.heap.size; omega) (.bool (zneg y1))).setCell (p := ⟨w4.heap.size, 1, none⟩) (by show w.heap.size ≤ w4.heap.size; omega) (.string (bs (zabs y1)))).setCell (p := ⟨w4.heap.size, 2, none⟩) (by show w.heap.size ≤ w4.heap.size; omega) (.bool (zneg y2))).setCell (p := ⟨w4.heap.size, 3, none⟩) (by show w.heap.size ≤ w4.heap.size; omega) (.string (bs (zabs y2))))
          clear K10
          have K10 := KN
          clear KN
          go_wp2
          go_roundw
          case rel => exact ⟨r1, r, x1, x2, y1, y2, K5, K6, K8, K9, K10, HZ2, HR2, HV⟩
          case measure =>
            have hm1 : memVal ((((sb.setCell ⟨w4.heap.size, 0, none⟩ (.bool (zneg y1))).setCell ⟨w4.heap.size, 1, none⟩ (.string (bs (zabs y1)))).setCell ⟨w4.heap.size, 2, none⟩ (.bool (zneg (y2)))).setCell ⟨w4.heap.size, 3, none⟩ (.string (bs (zabs (y2))))) ⟨w.heap.size + 1 + 1, 1, none⟩ = r := by unfold memVal; rw [K8.cell 1]; exact strVal_bs r
            have := HMS.out
            show memVal _ _ < memVal _ _
            rw [hm1, HM0.out]
            exact this

end Go.Proofs.YtmiafkbjmkaebaaGreat
