/-
  The contract of integer.Extended where the second number is 0.
-/
import Derived.Test.YtejadipdpohkoaaIntQ
namespace Go.Proofs.Ytejadipdpohkoaa
open Go.RowKit Num

set_option maxHeartbeats 8000000 in
set_option maxRecDepth 100000 in
theorem extended_zero {a : Nat} (ha : a < Top) (w : World) :
    Calls Try.prog 46 #[.string (bs a), .string (bs 0)] w (Made w (.tuple #[.string (bs a), (.agg #[.bool (zneg 1), .string (bs (zabs 1))]), (.agg #[.bool (zneg 0), .string (bs (zabs 0))]), .int .i64 0])) := by
  have haT := ha
  have hbT : 0 < Top := by unfold Top; decide
  have V1 := Lib.hid (fun W => valid_yes haT W)
  have V2 := Lib.hid (fun W => valid_yes hbT W)
  have O1 := Lib.hid (fun W => iof_any 1 (by decide) (by decide) W)
  have O0 := Lib.hid (fun W => iof_any 0 (by decide) (by decide) W)
  have hbe : (bs 0).toList.isEmpty = true := by rw [bs_isEmpty]; rfl
  clear ha haT hbT
  go_enter Try.func46, Try.ntmps46
  go_wp2_with fail
  refine (V1.out _).mono ?_
  rintro e w' ⟨rfl, rfl⟩
  go_wp2_with fail
  refine (V2.out _).mono ?_
  rintro e w' ⟨rfl, rfl⟩
  have K5 := ((Bk.new w #[.bool false, .string ⟨#[]⟩] 37).alloc (.cells #[.bool false, .string ⟨#[]⟩] 37)).alloc (.cells (#[.string (bs a), .string (bs 0)]) 100)
  have K6 := (Bk.new (w.alloc (.cells #[.bool false, .string ⟨#[]⟩] 37)) #[.bool false, .string ⟨#[]⟩] 37).alloc (.cells (#[.string (bs a), .string (bs 0)]) 100)
  have K8 := Bk.new ((w.alloc (.cells #[.bool false, .string ⟨#[]⟩] 37)).alloc (.cells #[.bool false, .string ⟨#[]⟩] 37)) (#[.string (bs a), .string (bs 0)]) 100
  rw [show (w.alloc (.cells #[.bool false, .string ⟨#[]⟩] 37)).heap.size = w.heap.size + 1 from by simp] at K6
  rw [show ((w.alloc (.cells #[.bool false, .string ⟨#[]⟩] 37)).alloc (.cells #[.bool false, .string ⟨#[]⟩] 37)).heap.size = w.heap.size + 1 + 1 from by simp] at K8
  have HV := (((Below.refl w.heap.size w).alloc (Nat.le_refl _) (.cells #[.bool false, .string ⟨#[]⟩] 37)).alloc (by simp) (.cells #[.bool false, .string ⟨#[]⟩] 37)).alloc (by simp; omega) (.cells (#[.string (bs a), .string (bs 0)]) 100)
  go_wp2_with fail
  refine (O1.out _).mono ?_
  rintro e w1 ⟨rfl, hb⟩
  replace K5 := K5.below hb
  replace K6 := K6.below hb
  replace K8 := K8.below hb
  replace HV := HV.trans (hb.mono HV.size)
  clear hb
  go_wp2_with fail
  refine (O0.out _).mono ?_
  rintro e w2 ⟨rfl, hb⟩
  replace K5 := K5.below hb
  replace K6 := K6.below hb
  replace K8 := K8.below hb
  replace HV := HV.trans (hb.mono HV.size)
  clear hb
  have d1 : w.heap.size + 1 + 1 < w2.heap.size := K8.lt
  replace K5 := K5.alloc (.cells (#[.bool (zneg 1), .string (bs (zabs 1)), .bool (zneg 0), .string (bs (zabs 0))]) 101)
  replace K6 := K6.alloc (.cells (#[.bool (zneg 1), .string (bs (zabs 1)), .bool (zneg 0), .string (bs (zabs 0))]) 101)
  replace K8 := K8.alloc (.cells (#[.bool (zneg 1), .string (bs (zabs 1)), .bool (zneg 0), .string (bs (zabs 0))]) 101)
  have K9 := Bk.new w2 (#[.bool (zneg 1), .string (bs (zabs 1)), .bool (zneg 0), .string (bs (zabs 0))]) 101
  replace HV := HV.alloc HV.size (.cells (#[.bool (zneg 1), .string (bs (zabs 1)), .bool (zneg 0), .string (bs (zabs 0))]) 101)
  go_wp2_with fail
  refine (O0.out _).mono ?_
  rintro e w3 ⟨rfl, hb⟩
  replace K5 := K5.below hb
  replace K6 := K6.below hb
  replace K8 := K8.below hb
  replace K9 := K9.below hb
  replace HV := HV.trans (hb.mono HV.size)
  clear hb
  go_wp2_with fail
  refine (O1.out _).mono ?_
  rintro e w4 ⟨rfl, hb⟩
  replace K5 := K5.below hb
  replace K6 := K6.below hb
  replace K8 := K8.below hb
  replace K9 := K9.below hb
  replace HV := HV.trans (hb.mono HV.size)
  clear hb
  have d2 : w2.heap.size < w4.heap.size := K9.lt
  replace K5 := K5.alloc (.cells (#[.bool (zneg 0), .string (bs (zabs 0)), .bool (zneg 1), .string (bs (zabs 1))]) 101)
  replace K6 := K6.alloc (.cells (#[.bool (zneg 0), .string (bs (zabs 0)), .bool (zneg 1), .string (bs (zabs 1))]) 101)
  replace K8 := K8.alloc (.cells (#[.bool (zneg 0), .string (bs (zabs 0)), .bool (zneg 1), .string (bs (zabs 1))]) 101)
  replace K9 := K9.alloc (.cells (#[.bool (zneg 0), .string (bs (zabs 0)), .bool (zneg 1), .string (bs (zabs 1))]) 101)
  have K10 := Bk.new w4 (#[.bool (zneg 0), .string (bs (zabs 0)), .bool (zneg 1), .string (bs (zabs 1))]) 101
  replace HV := HV.alloc HV.size (.cells (#[.bool (zneg 0), .string (bs (zabs 0)), .bool (zneg 1), .string (bs (zabs 1))]) 101)

  go_wp2_with fail
  go_loopw [11] (fun _ wr => Bk wr w.heap.size #[.bool false, .string ⟨#[]⟩] 37 ∧ Bk wr (w.heap.size + 1) #[.bool false, .string ⟨#[]⟩] 37 ∧ Bk wr (w.heap.size + 1 + 1) (#[.string (bs a), .string (bs 0)]) 100 ∧ Bk wr w2.heap.size (#[.bool (zneg 1), .string (bs (zabs 1)), .bool (zneg 0), .string (bs (zabs 0))]) 101 ∧ Bk wr w4.heap.size (#[.bool (zneg 0), .string (bs (zabs 0)), .bool (zneg 1), .string (bs (zabs 1))]) 101 ∧ Below w.heap.size w wr) (fun _ _ => 0)
  case atStart => exact ⟨K5, K6, K8, K9, K10, HV⟩
  case round =>
    clear K5 K6 K8 K9 K10 HV
    obtain ⟨K5, K6, K8, K9, K10, HV⟩ := hrel
    have c80 : wr.cell? ⟨w.heap.size + 1 + 1, 0, none⟩ = some (.string (bs a)) := K8.cell 0
    have c81 : wr.cell? ⟨w.heap.size + 1 + 1, 1, none⟩ = some (.string (bs 0)) := K8.cell 1
    · skip
      have c90 : wr.cell? ⟨w2.heap.size, 0, none⟩ = some (.bool (zneg 1)) := K9.cell 0
      have c91 : wr.cell? ⟨w2.heap.size, 1, none⟩ = some (.string (bs (zabs 1))) := K9.cell 1
      have c100 : wr.cell? ⟨w4.heap.size, 0, none⟩ = some (.bool (zneg 0)) := K10.cell 0
      have c101 : wr.cell? ⟨w4.heap.size, 1, none⟩ = some (.string (bs (zabs 0))) := K10.cell 1
      have l9 : w2.heap.size < wr.heap.size := K9.lt
      have l10 : w4.heap.size < wr.heap.size := K10.lt
      have l9' : w2.heap.size < wr.heap.size + 1 := by omega
      have l10' : w4.heap.size < wr.heap.size + 1 := by omega
      go_upto_region 11 with fail
      go_cut [14, 15] from 59 (fun s14 s15 wx => ∃ g14 g15, s14 = .pointer (some ⟨g14, 0, none⟩) ∧ s15 = .pointer (some ⟨g15, 0, none⟩) ∧ g14 ≠ g15 ∧ w.heap.size + 1 + 1 < g14 ∧ w.heap.size + 1 + 1 < g15 ∧ Bk wx g14 #[.bool (zneg 1), .string (bs (zabs 1))] 37 ∧ Bk wx g15 #[.bool (zneg 0), .string (bs (zabs 0))] 37 ∧ Bk wx w.heap.size #[.bool false, .string ⟨#[]⟩] 37 ∧ Bk wx (w.heap.size + 1) #[.bool false, .string ⟨#[]⟩] 37 ∧ Bk wx (w.heap.size + 1 + 1) (#[.string (bs a), .string (bs 0)]) 100 ∧ Below w.heap.size w wx)
      case first =>
        go_region
        all_goals
          go_wp2_with fail
          go_meet
          first
            | exact ⟨wr.heap.size, wr.heap.size + 1, rfl, rfl, by omega, by omega, by omega, (Bk.new wr _ _).alloc _, Bk.new1 wr _ _ _, (K5.alloc _).alloc _, (K6.alloc _).alloc _, (K8.alloc _).alloc _, ((HV.alloc HV.size _).alloc (HV.alloc HV.size _).size _).drew⟩
            | exact ⟨wr.heap.size + 1, wr.heap.size, rfl, rfl, by omega, by omega, by omega, Bk.new1 wr _ _ _, (Bk.new wr _ _).alloc _, (K5.alloc _).alloc _, (K6.alloc _).alloc _, (K8.alloc _).alloc _, ((HV.alloc HV.size _).alloc (HV.alloc HV.size _).size _).drew⟩
      case rest =>
      clear K5 K6 K8 K9 K10 HV c80 c81 c90 c91 c100 c101 l9 l10 l9' l10'
      obtain ⟨g14, g15, rfl, rfl, n0, n1, n2, KXn, KYn, K5n, K6n, K8n, HV⟩ := hcut
      go_upto_region 14 with fail
      have cx0 : wc.cell? ⟨g14, 0, none⟩ = some (.bool (zneg 1)) := KXn.cell 0
      have cx1 : wc.cell? ⟨g14, 1, none⟩ = some (.string (bs (zabs 1))) := KXn.cell 1
      have cy0 : wc.cell? ⟨g15, 0, none⟩ = some (.bool (zneg 0)) := KYn.cell 0
      have cy1 : wc.cell? ⟨g15, 1, none⟩ = some (.string (bs (zabs 0))) := KYn.cell 1
      have cr : wc.cell? ⟨w.heap.size + 1 + 1, 0, none⟩ = some (.string (bs a)) := K8n.cell 0
      have z0 : wc.cell? ⟨w.heap.size, 0, none⟩ = some (.bool false) := K5n.cell 0
      have z1 : wc.cell? ⟨w.heap.size, 1, none⟩ = some (.string ⟨#[]⟩) := K5n.cell 1
      have y0' : wc.cell? ⟨w.heap.size + 1, 0, none⟩ = some (.bool false) := K6n.cell 0
      have y1' : wc.cell? ⟨w.heap.size + 1, 1, none⟩ = some (.string ⟨#[]⟩) := K6n.cell 1
      have fz0 := K5n.frozen 0
      have fz1 := K5n.frozen 1
      have fy0 := K6n.frozen 0
      have fy1 := K6n.frozen 1
      go_region
      all_goals
        go_wp2
        exact bodyPost_ret (v := .tuple #[.string (bs a), (.agg #[.bool (zneg 1), .string (bs (zabs 1))]), (.agg #[.bool (zneg 0), .string (bs (zabs 0))]), .int .i64 0]) (by simp [results, Try.results46, go_sem, z0, z1, y0', y1']) rfl ⟨rfl, ((((HV.setCell (p := ⟨w.heap.size, 0, none⟩) (Nat.le_refl _) _).setCell (p := ⟨w.heap.size, 1, none⟩) (Nat.le_refl _) _).setCell (p := ⟨w.heap.size + 1, 0, none⟩) (Nat.le_succ _) _).setCell (p := ⟨w.heap.size + 1, 1, none⟩) (Nat.le_succ _) _).drew⟩

end Go.Proofs.Ytejadipdpohkoaa
