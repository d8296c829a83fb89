/-
  The contract of the reference's bezout. The contract of the reference's Extended.
-/
import Derived.Test.YtppdolmeeiookaaGreatIntQ
import Derived.Deep.Cut
import Derived.Deep.CutRange
import Derived.Test.YtppdolmeeiookaaGreatIntN
namespace Go.Proofs.YtppdolmeeiookaaGreat
open Go.RowKit Num

theorem zero_iv : zneg 0 = false ∧ zabs 0 = 0 := by decide
set_option maxHeartbeats 3200000 in
set_option maxRecDepth 100000 in
theorem bezout_zero {a : Nat} (w : World) :
    Calls Tryz.prog 79 #[.string (bs a), .string (bs 0)] w (Made w (.tuple #[.string (bs a), (.agg #[.bool (zneg 1), .string (bs (zabs 1))]), (.agg #[.bool (zneg 0), .string (bs (zabs 0))])])) := by
  have O1 := Lib.hid (fun W => riof_any 1 (by decide) (by decide) W)
  have O0 := Lib.hid (fun W => riof_any 0 (by decide) (by decide) W)
  have hbe : (bs 0).toList.isEmpty = true := by rw [bs_isEmpty]; rfl
  have K5 := (Bk.new w #[.bool false, .string ⟨#[]⟩] 24).alloc (.cells #[.bool false, .string ⟨#[]⟩] 24)
  have K6 := Bk.new1 w (.cells #[.bool false, .string ⟨#[]⟩] 24) #[.bool false, .string ⟨#[]⟩] 24
  have HV := ((Below.refl w.heap.size w).alloc (Nat.le_refl _) (.cells #[.bool false, .string ⟨#[]⟩] 24)).alloc (by simp) (.cells #[.bool false, .string ⟨#[]⟩] 24)
  go_enter Tryz.func79, Tryz.ntmps79
  go_wp2_with fail
  refine (O1.out _).mono ?_
  rintro e w1 ⟨rfl, hb⟩
  replace K5 := K5.below hb
  replace K6 := K6.below hb
  replace HV := HV.trans (hb.mono HV.size)
  clear hb
  go_wp2_with fail
  refine (O0.out _).mono ?_
  rintro e w2 ⟨rfl, hb⟩
  replace K5 := K5.below hb
  replace K6 := K6.below hb
  replace HV := HV.trans (hb.mono HV.size)
  clear hb
  have f5 := K5.frozen
  have f6 := K6.frozen
  have c50 := K5.cell 0
  have c51 := K5.cell 1
  have c60 := K6.cell 0
  have c61 := K6.cell 1
  go_wp2
  exact bodyPost_ret (v := .tuple #[.string (bs a), (.agg #[.bool (zneg 1), .string (bs (zabs 1))]), (.agg #[.bool (zneg 0), .string (bs (zabs 0))])]) (by simp [results, Tryz.results79, go_sem, c50, c51, c60, c61]) rfl ⟨rfl, (((HV.setCell (Nat.le_refl _) _).setCell (Nat.le_refl _) _).setCell (Nat.le_succ _) _).setCell (Nat.le_succ _) _⟩
/-- A result that is still zero. -/
def Rz (wx : World) (g : Nat) : Prop := wx.cell? ⟨g, 0, none⟩ = some (.bool false) ∧ wx.cell? ⟨g, 1, none⟩ = some (.string ⟨#[]⟩) ∧ wx.frozen? ⟨g, 0, none⟩ = false ∧ wx.frozen? ⟨g, 1, none⟩ = false
theorem gcd_step (a b : Nat) : Nat.gcd a b = Nat.gcd b (a % b) := by rw [Nat.gcd_comm a b, Nat.gcd_rec, Nat.gcd_comm]
set_option maxHeartbeats 8000000 in
set_option maxRecDepth 100000 in
theorem bezout_step {a b g : Nat} {x y : Int} (haT : a < Top) (hbT : b < Top) (h0 : b ≠ 0) (hx : zabs x < Top) (hy : zabs y < Top) (hp : zabs (((a / b : Nat) : Int) * y) < Top) (hd : zabs (x - ((a / b : Nat) : Int) * y) < Top)
    (IH : ∀ W, Calls Tryz.prog 79 #[.string (bs b), .string (bs (a % b))] W (Made W (.tuple #[.string (bs g), (.agg #[.bool (zneg x), .string (bs (zabs x))]), (.agg #[.bool (zneg y), .string (bs (zabs y))])]))) (w : World) :
    Calls Tryz.prog 79 #[.string (bs a), .string (bs b)] w (Made w (.tuple #[.string (bs g), (.agg #[.bool (zneg y), .string (bs (zabs y))]), (.agg #[.bool (zneg (x - ((a / b : Nat) : Int) * y)), .string (bs (zabs (x - ((a / b : Nat) : Int) * y)))])])) := by
  have HD := Lib.hid (fun W => rdivmod_ok haT hbT h0 W)
  have hqT : a / b < Top := Nat.lt_of_le_of_lt (Nat.div_le_self _ _) haT
  have HF := Lib.hid (fun W => rfrom_yes hqT W)
  have HM := Lib.hid (fun W => rimul_ok (by rw [zabs_nat]; exact hqT) hy hp W)
  have HS := Lib.hid (fun W => risub_ok hx hp hd W)
  have HI := Lib.hid IH
  have hbe : (bs b).toList.isEmpty = false := by rw [bs_isEmpty]; simpa using h0
  clear haT hbT hqT h0 hx hy hp hd IH
  generalize a / b = q at *
  generalize a % b = r at *
  obtain ⟨p, hpp⟩ : ∃ p, p = (q : Int) * y := ⟨_, rfl⟩
  rw [← hpp] at HM HS ⊢
  clear hpp
  obtain ⟨d, hdd⟩ : ∃ d, d = x - p := ⟨_, rfl⟩
  rw [← hdd] at HS ⊢
  clear hdd
  have K5 := (Bk.new w #[.bool false, .string ⟨#[]⟩] 24).alloc (.cells #[.bool false, .string ⟨#[]⟩] 24)
  have K6 := Bk.new1 w (.cells #[.bool false, .string ⟨#[]⟩] 24) #[.bool false, .string ⟨#[]⟩] 24
  have HV := ((Below.refl w.heap.size w).alloc (Nat.le_refl _) (.cells #[.bool false, .string ⟨#[]⟩] 24)).alloc (by simp) (.cells #[.bool false, .string ⟨#[]⟩] 24)
  go_enter Tryz.func79, Tryz.ntmps79
  go_wp2_with fail
  refine (HD.out _).mono ?_
  rintro e w1 ⟨rfl, hb⟩
  replace K5 := K5.below hb
  replace K6 := K6.below hb
  replace HV := HV.trans (hb.mono HV.size)
  clear hb
  go_wp2_with fail
  refine (HI.out _).mono ?_
  rintro e w2 ⟨rfl, hb⟩
  replace K5 := K5.below hb
  replace K6 := K6.below hb
  replace HV := HV.trans (hb.mono HV.size)
  clear hb
  have z5 := K5.lt
  have z6 := K6.lt
  have c50 : w2.cell? ⟨w.heap.size, 0, none⟩ = some (.bool false) := K5.cell 0
  have c51 : w2.cell? ⟨w.heap.size, 1, none⟩ = some (.string ⟨#[]⟩) := K5.cell 1
  have c60 : w2.cell? ⟨w.heap.size + 1, 0, none⟩ = some (.bool false) := K6.cell 0
  have c61 : w2.cell? ⟨w.heap.size + 1, 1, none⟩ = some (.string ⟨#[]⟩) := K6.cell 1
  have f50 := K5.frozen 0
  have f51 := K5.frozen 1
  have f60 := K6.frozen 0
  have f61 := K6.frozen 1
  clear K5 K6
  have z7 : w.heap.size < w2.heap.size + 1 := by omega
  have z8 : w.heap.size < w2.heap.size + 1 + 1 := by omega
  have z9 : w.heap.size + 1 < w2.heap.size + 1 + 1 := by omega
  have HB := Below.refl ((w2.alloc (.cells #[.bool (zneg x), .string (bs (zabs x))] 24)).alloc (.cells #[.bool (zneg y), .string (bs (zabs y))] 24)).heap.size ((w2.alloc (.cells #[.bool (zneg x), .string (bs (zabs x))] 24)).alloc (.cells #[.bool (zneg y), .string (bs (zabs y))] 24))
  go_upto_region 5 with fail
  go_cut [13] from 44 (fun s13 wx => ∃ g13, s13 = .pointer (some ⟨g13, 0, none⟩) ∧ w2.heap.size + 1 < g13 ∧ g13 < wx.heap.size ∧ Lies wx g13 p ∧ Lies wx w2.heap.size x ∧ Lies wx (w2.heap.size + 1) y ∧ Rz wx w.heap.size ∧ Rz wx (w.heap.size + 1) ∧ Below ((w2.alloc (.cells #[.bool (zneg x), .string (bs (zabs x))] 24)).alloc (.cells #[.bool (zneg y), .string (bs (zabs y))] 24)).heap.size ((w2.alloc (.cells #[.bool (zneg x), .string (bs (zabs x))] 24)).alloc (.cells #[.bool (zneg y), .string (bs (zabs y))] 24)) wx)
  case first =>
    replace HB := HB.drew
    go_region_with (first | (go_at_call 81; (refine (HF.out _).mono ?_); rintro e u1 ⟨rfl, hb⟩; obtain ⟨hcu1, hfu1⟩ := bcell hb; have hzu1 := hb.size; (try simp at hzu1); (try have hyu1 := Nat.lt_of_succ_le hzu1); (first | replace HB := HB.trans (hb.mono HB.size) | replace HB := (HB.alloc HB.size _).trans (hb.mono (HB.alloc HB.size _).size)); obtain ⟨hdu1, hgu1⟩ := bcell HB; obtain ⟨pau1, pbu1, pcu1, pdu1⟩ : w2.heap.size < u1.heap.size ∧ w2.heap.size + 1 < u1.heap.size ∧ w.heap.size < u1.heap.size ∧ w.heap.size + 1 < u1.heap.size := (by have := HB.size; simp at this; omega); clear hb) | (go_at_call 82; (refine (HM.out _).mono ?_); rintro e u2 ⟨rfl, hb⟩; obtain ⟨hcu2, hfu2⟩ := bcell hb; have hzu2 := hb.size; (try simp at hzu2); (try have hyu2 := Nat.lt_of_succ_le hzu2); (first | replace HB := HB.trans (hb.mono HB.size) | replace HB := (HB.alloc HB.size _).trans (hb.mono (HB.alloc HB.size _).size)); obtain ⟨hdu2, hgu2⟩ := bcell HB; obtain ⟨pau2, pbu2, pcu2, pdu2⟩ : w2.heap.size < u2.heap.size ∧ w2.heap.size + 1 < u2.heap.size ∧ w.heap.size < u2.heap.size ∧ w.heap.size + 1 < u2.heap.size := (by have := HB.size; simp at this; omega); clear hb))
    all_goals
      go_wp2_with fail
      go_meet
      refine ⟨_, rfl, by omega, by first | (simp; done) | (simp; omega), ⟨by go_simp, by go_simp⟩, ⟨by go_simp, by go_simp⟩, ⟨by go_simp, by go_simp⟩, ⟨by go_simp, by go_simp, by go_simp, by go_simp⟩, ⟨by go_simp, by go_simp, by go_simp, by go_simp⟩, ?_⟩
      first
        | exact HB.alloc HB.size _
        | exact (HB.setCell (by first | (simp; done) | (simp; omega)) _).setCell (by first | (simp; done) | (simp; omega)) _
  case rest =>
  clear HB HD HF HM HI c50 c51 c60 c61 f50 f51 f60 f61
  obtain ⟨g13, rfl, hg, hgx, ⟨p0, p1⟩, ⟨x0, x1⟩, ⟨y0, y1⟩, ⟨c50, c51, f50, f51⟩, ⟨c60, c61, f60, f61⟩, HB⟩ := hcut
  have zc := HB.size
  simp at zc
  go_wp2_with fail
  refine (HS.out _).mono ?_
  rintro e u3 ⟨rfl, hb⟩
  obtain ⟨hc, hf⟩ := bcell hb
  have zu := hb.size
  replace HB := HB.trans (hb.mono HB.size)
  have r1 : w.heap.size < wc.heap.size := by omega
  have r2 : w.heap.size + 1 < wc.heap.size := by omega
  have r3 : w2.heap.size + 1 < wc.heap.size := by omega
  have r4 : w.heap.size < u3.heap.size := by omega
  have r5 : w.heap.size + 1 < u3.heap.size := by omega
  have r6 : w2.heap.size + 1 < u3.heap.size := by omega
  go_upto_region 7 with fail
  have e0 : (u3.alloc (.cells #[.bool (zneg d), .string (bs (zabs d))] 24)).cell? ⟨w2.heap.size + 1, 0, none⟩ = some (.bool (zneg y)) := by go_simp
  have e1 : (u3.alloc (.cells #[.bool (zneg d), .string (bs (zabs d))] 24)).cell? ⟨w2.heap.size + 1, 1, none⟩ = some (.string (bs (zabs y))) := by go_simp
  have e2 : (u3.alloc (.cells #[.bool (zneg d), .string (bs (zabs d))] 24)).cell? ⟨u3.heap.size, 0, none⟩ = some (.bool (zneg d)) := by go_simp
  have e3 : (u3.alloc (.cells #[.bool (zneg d), .string (bs (zabs d))] 24)).cell? ⟨u3.heap.size, 1, none⟩ = some (.string (bs (zabs d))) := by go_simp
  have a0 : (u3.alloc (.cells #[.bool (zneg d), .string (bs (zabs d))] 24)).cell? ⟨w.heap.size, 0, none⟩ = some (.bool false) := by go_simp
  have a1 : (u3.alloc (.cells #[.bool (zneg d), .string (bs (zabs d))] 24)).cell? ⟨w.heap.size, 1, none⟩ = some (.string ⟨#[]⟩) := by go_simp
  have a2 : (u3.alloc (.cells #[.bool (zneg d), .string (bs (zabs d))] 24)).cell? ⟨w.heap.size + 1, 0, none⟩ = some (.bool false) := by go_simp
  have a3 : (u3.alloc (.cells #[.bool (zneg d), .string (bs (zabs d))] 24)).cell? ⟨w.heap.size + 1, 1, none⟩ = some (.string ⟨#[]⟩) := by go_simp
  have b0 : (u3.alloc (.cells #[.bool (zneg d), .string (bs (zabs d))] 24)).frozen? ⟨w.heap.size, 0, none⟩ = false := by go_simp
  have b1 : (u3.alloc (.cells #[.bool (zneg d), .string (bs (zabs d))] 24)).frozen? ⟨w.heap.size, 1, none⟩ = false := by go_simp
  have b2 : (u3.alloc (.cells #[.bool (zneg d), .string (bs (zabs d))] 24)).frozen? ⟨w.heap.size + 1, 0, none⟩ = false := by go_simp
  have b3 : (u3.alloc (.cells #[.bool (zneg d), .string (bs (zabs d))] 24)).frozen? ⟨w.heap.size + 1, 1, none⟩ = false := by go_simp
  have HW : Below w.heap.size w (u3.alloc (.cells #[.bool (zneg d), .string (bs (zabs d))] 24)) := ((((HV.alloc HV.size _).alloc (by have := HV.size; simp; omega) _).trans (HB.mono (by simp; omega))).alloc (by omega) _)
  have n1 : w2.heap.size + 1 ≠ w.heap.size := by omega
  have n2 : w2.heap.size + 1 ≠ w.heap.size + 1 := by omega
  have n3 : u3.heap.size ≠ w.heap.size := by omega
  have n4 : u3.heap.size ≠ w.heap.size + 1 := by omega
  clear hc hf hb HB zu zc r1 r2 r3 r4 r5 r6 p0 p1 x0 x1 y0 y1 c50 c51 c60 c61 f50 f51 f60 f61
  generalize u3.alloc (.cells #[.bool (zneg d), .string (bs (zabs d))] 24) = w4 at *
  generalize u3.heap.size = g15 at *
  go_region
  all_goals
    go_wp2
    exact bodyPost_ret (v := .tuple #[.string (bs g), (.agg #[.bool (zneg y), .string (bs (zabs y))]), (.agg #[.bool (zneg d), .string (bs (zabs d))])]) (by simp [results, Tryz.results79, go_sem, a0, a1, a2, a3]) rfl ⟨rfl, ((((HW.setCell (Nat.le_refl _) _).setCell (Nat.le_refl _) _).setCell (Nat.le_succ _) _).setCell (Nat.le_succ _) _).drew⟩
theorem bezout_ok (k : Nat) : ∀ (b a : Nat), b ≤ k → a < 256 ^ 60 → b < 256 ^ 60 → ∀ w, Calls Tryz.prog 79 #[.string (bs a), .string (bs b)] w (Made w (.tuple #[.string (bs (Nat.gcd a b)), (.agg #[.bool (zneg ((bez a b).1)), .string (bs (zabs ((bez a b).1)))]), (.agg #[.bool (zneg ((bez a b).2)), .string (bs (zabs ((bez a b).2)))])])) := by
  have hT : 256 ^ 60 + 256 ^ 60 + 1 < Top := by unfold Top; decide
  have hz : ∀ (a : Nat) w, Calls Tryz.prog 79 #[.string (bs a), .string (bs 0)] w (Made w (.tuple #[.string (bs (Nat.gcd a 0)), (.agg #[.bool (zneg ((bez a 0).1)), .string (bs (zabs ((bez a 0).1)))]), (.agg #[.bool (zneg ((bez a 0).2)), .string (bs (zabs ((bez a 0).2)))])])) := by
    intro a w
    rw [Nat.gcd_zero_right, bez_zero]
    exact bezout_zero w
  induction k with
  | zero =>
    intro b a hk _ _ w
    obtain rfl : b = 0 := by omega
    exact hz a w
  | succ k ih =>
    intro b a hk ha hb w
    by_cases h0 : b = 0
    · subst h0; exact hz a w
    · have hs := (bez_spec b a).2 h0
      have hm := Nat.mod_lt a (Nat.pos_of_ne_zero h0)
      have hI := fun W => ih (a % b) b (by omega) hb (by omega) W
      rw [bez_pos a h0] at hs ⊢
      rw [gcd_step a b]
      generalize (bez b (a % b)).1 = x at *
      generalize (bez b (a % b)).2 = y at *
      simp only at hs ⊢
      obtain ⟨s1, s2, s3⟩ := hs
      refine bezout_step (lt_top60 ha) (lt_top60 hb) h0 ?_ ?_ ?_ ?_ hI w
      · unfold zabs; omega
      · unfold zabs; omega
      · unfold zabs; omega
      · unfold zabs; omega
end Go.Proofs.YtppdolmeeiookaaGreat

namespace Go.Proofs.YtppdolmeeiookaaGreat
open Go.RowKit Num

set_option maxHeartbeats 3200000 in
set_option maxRecDepth 100000 in
theorem rextended_zero {a : Nat} (ha : a < Top) (w : World) :
    Calls Tryz.prog 44 #[.string (bs a), .string (bs 0)] w (Made w (.tuple #[.string (bs a), (.agg #[.bool (zneg 1), .string (bs (zabs 1))]), (.agg #[.bool (zneg 0), .string (bs (zabs 0))]), .int .i64 0])) := by
  have hbT : 0 < Top := by unfold Top; decide
  have V1 := Lib.hid (fun W => rvalid_yes ha W)
  have V2 := Lib.hid (fun W => rvalid_yes hbT W)
  have O1 := Lib.hid (fun W => riof_any 1 (by decide) (by decide) W)
  have O0 := Lib.hid (fun W => riof_any 0 (by decide) (by decide) W)
  have hbe : (bs 0).toList.isEmpty = true := by rw [bs_isEmpty]; rfl
  have K5 := (Bk.new w #[.bool false, .string ⟨#[]⟩] 24).alloc (.cells #[.bool false, .string ⟨#[]⟩] 24)
  have K6 := Bk.new1 w (.cells #[.bool false, .string ⟨#[]⟩] 24) #[.bool false, .string ⟨#[]⟩] 24
  have HV := ((Below.refl w.heap.size w).alloc (Nat.le_refl _) (.cells #[.bool false, .string ⟨#[]⟩] 24)).alloc (by simp) (.cells #[.bool false, .string ⟨#[]⟩] 24)
  clear ha hbT
  go_enter Tryz.func44, Tryz.ntmps44
  go_wp2_with fail
  refine (V1.out _).mono ?_
  rintro e w' ⟨rfl, rfl⟩
  go_wp2_with fail
  refine (V2.out _).mono ?_
  rintro e w' ⟨rfl, rfl⟩
  go_wp2_with fail
  refine (O1.out _).mono ?_
  rintro e w1 ⟨rfl, hb⟩
  replace K5 := K5.below hb
  replace K6 := K6.below hb
  replace HV := HV.trans (hb.mono HV.size)
  clear hb
  go_wp2_with fail
  refine (O0.out _).mono ?_
  rintro e w2 ⟨rfl, hb⟩
  replace K5 := K5.below hb
  replace K6 := K6.below hb
  replace HV := HV.trans (hb.mono HV.size)
  clear hb
  have f5 := K5.frozen
  have f6 := K6.frozen
  have c50 := K5.cell 0
  have c51 := K5.cell 1
  have c60 := K6.cell 0
  have c61 := K6.cell 1
  go_wp2
  exact bodyPost_ret (v := .tuple #[.string (bs a), (.agg #[.bool (zneg 1), .string (bs (zabs 1))]), (.agg #[.bool (zneg 0), .string (bs (zabs 0))]), .int .i64 0]) (by simp [results, Tryz.results44, go_sem, c50, c51, c60, c61]) rfl ⟨rfl, (((HV.setCell (Nat.le_refl _) _).setCell (Nat.le_refl _) _).setCell (Nat.le_succ _) _).setCell (Nat.le_succ _) _⟩
set_option maxHeartbeats 16000000 in
set_option maxRecDepth 100000 in
theorem rextended_core {a b g m k : Nat} {x y : Int} (haT : a < Top) (hbT : b < Top) (h0 : b ≠ 0) (hgT : g < Top) (g0 : g ≠ 0) (hm : b / g = m) (hk : a / g = k) (m0 : m ≠ 0) (hx : zabs x < Top) (hy : zabs y < Top)
    (hqT : zabs (x / (m : Int)) < Top) (hpT : zabs (x / (m : Int) * (k : Int)) < Top) (hsT : zabs (y + x / (m : Int) * (k : Int)) < Top)
    (HBZ : ∀ W, Calls Tryz.prog 79 #[.string (bs a), .string (bs b)] W (Made W (.tuple #[.string (bs g), (.agg #[.bool (zneg x), .string (bs (zabs x))]), (.agg #[.bool (zneg y), .string (bs (zabs y))])]))) (w : World) :
    Calls Tryz.prog 44 #[.string (bs a), .string (bs b)] w (Made w (.tuple #[.string (bs g), (.agg #[.bool (zneg (x % (m : Int))), .string (bs (zabs (x % (m : Int))))]), (.agg #[.bool (zneg (y + x / (m : Int) * (k : Int))), .string (bs (zabs (y + x / (m : Int) * (k : Int))))]), .int .i64 0])) := by
  have hmT : m < Top := by rw [← hm]; exact Nat.lt_of_le_of_lt (Nat.div_le_self _ _) hbT
  have hkT : k < Top := by rw [← hk]; exact Nat.lt_of_le_of_lt (Nat.div_le_self _ _) haT
  have hr0 : 0 ≤ x % (m : Int) := Int.emod_nonneg _ (by omega)
  have hrT : zabs (x % (m : Int)) < Top := by
    have := Int.emod_lt_of_pos x (show (0 : Int) < m by omega)
    unfold zabs
    omega
  have V1 := Lib.hid (fun W => rvalid_yes haT W)
  have V2 := Lib.hid (fun W => rvalid_yes hbT W)
  have HZ := Lib.hid HBZ
  have HD1 := Lib.hid (fun W => rdivmod_ok hbT hgT g0 W)
  have HD2 := Lib.hid (fun W => rdivmod_ok haT hgT g0 W)
  rw [hm] at HD1
  rw [hk] at HD2
  have HF1 := Lib.hid (fun W => rfrom_yes hmT W)
  have HK := Lib.hid (fun W => ridivmod_ok hx (by rw [zabs_nat]; exact hmT) (by rw [zabs_nat]; exact m0) W)
  have HF2 := Lib.hid (fun W => rfrom_yes hkT W)
  have HM := Lib.hid (fun W => rimul_ok hqT (by rw [zabs_nat]; exact hkT) hpT W)
  have HA := Lib.hid (fun W => riadd_ok hy hpT hsT W)
  have HF3 := Lib.hid (fun W => rfrom_yes hrT W)
  rw [show ((zabs (x % (m : Int)) : Nat) : Int) = x % (m : Int) from by unfold zabs; omega] at HF3
  obtain ⟨r, hr⟩ : ∃ r, r = x % (m : Int) := ⟨_, rfl⟩
  obtain ⟨q, hqq⟩ : ∃ q, q = x / (m : Int) := ⟨_, rfl⟩
  rw [← hr] at HK HF3 ⊢
  rw [← hqq] at HK HM HA ⊢
  obtain ⟨p, hpp⟩ : ∃ p, p = q * (k : Int) := ⟨_, rfl⟩
  rw [← hpp] at HM HA ⊢
  obtain ⟨s, hss⟩ : ∃ s, s = y + p := ⟨_, rfl⟩
  rw [← hss] at HA ⊢
  generalize b % g = t1 at HD1
  generalize a % g = t2 at HD2
  have hbe : (bs b).toList.isEmpty = false := by rw [bs_isEmpty]; simpa using h0
  clear haT hbT h0 hgT g0 hm hk m0 hx hy hqT hpT hsT HBZ hmT hkT hr0 hrT hr hqq hpp hss
  have K5 := (Bk.new w #[.bool false, .string ⟨#[]⟩] 24).alloc (.cells #[.bool false, .string ⟨#[]⟩] 24)
  have K6 := Bk.new1 w (.cells #[.bool false, .string ⟨#[]⟩] 24) #[.bool false, .string ⟨#[]⟩] 24
  have HV := ((Below.refl w.heap.size w).alloc (Nat.le_refl _) (.cells #[.bool false, .string ⟨#[]⟩] 24)).alloc (by simp) (.cells #[.bool false, .string ⟨#[]⟩] 24)
  go_enter Tryz.func44, Tryz.ntmps44
  go_wp2_with fail
  refine (V1.out _).mono ?_
  rintro e w' ⟨rfl, rfl⟩
  go_wp2_with fail
  refine (V2.out _).mono ?_
  rintro e w' ⟨rfl, rfl⟩
  go_wp2_with fail
  refine (HZ.out _).mono ?_
  rintro e w1 ⟨rfl, hb⟩
  replace K5 := K5.below hb
  replace K6 := K6.below hb
  replace HV := HV.trans (hb.mono HV.size)
  clear hb
  have z5 := K5.lt
  have z6 := K6.lt
  have c50 : w1.cell? ⟨w.heap.size, 0, none⟩ = some (.bool false) := K5.cell 0
  have c51 : w1.cell? ⟨w.heap.size, 1, none⟩ = some (.string ⟨#[]⟩) := K5.cell 1
  have c60 : w1.cell? ⟨w.heap.size + 1, 0, none⟩ = some (.bool false) := K6.cell 0
  have c61 : w1.cell? ⟨w.heap.size + 1, 1, none⟩ = some (.string ⟨#[]⟩) := K6.cell 1
  have f50 := K5.frozen 0
  have f51 := K5.frozen 1
  have f60 := K6.frozen 0
  have f61 := K6.frozen 1
  clear K5 K6
  have z7 : w.heap.size < w1.heap.size + 1 := by omega
  have z8 : w.heap.size < w1.heap.size + 1 + 1 := by omega
  have z9 : w.heap.size + 1 < w1.heap.size + 1 + 1 := by omega
  have HB := Below.refl ((w1.alloc (.cells #[.bool (zneg x), .string (bs (zabs x))] 24)).alloc (.cells #[.bool (zneg y), .string (bs (zabs y))] 24)).heap.size ((w1.alloc (.cells #[.bool (zneg x), .string (bs (zabs x))] 24)).alloc (.cells #[.bool (zneg y), .string (bs (zabs y))] 24))
  go_wp2_with fail
  refine (HD1.out _).mono ?_
  rintro e w2 ⟨rfl, hb⟩
  replace HB := HB.trans (hb.mono HB.size)
  clear hb
  go_wp2_with fail
  refine (HD2.out _).mono ?_
  rintro e w3 ⟨rfl, hb⟩
  replace HB := HB.trans (hb.mono HB.size)
  clear hb
  obtain ⟨hc, hf⟩ := bcell HB
  obtain ⟨pa, pb, pc, pd⟩ : w1.heap.size < w3.heap.size ∧ w1.heap.size + 1 < w3.heap.size ∧ w.heap.size < w3.heap.size ∧ w.heap.size + 1 < w3.heap.size := (by have := HB.size; simp at this; omega)
  go_upto_region 8 with fail
  go_cut [17, 18] from 58 (fun s17 s18 wx => s18 = .string (bs (zabs r)) ∧ ∃ g17, s17 = .pointer (some ⟨g17, 0, none⟩) ∧ w1.heap.size + 1 < g17 ∧ g17 < wx.heap.size ∧ Lies wx g17 q ∧ Lies wx (w1.heap.size + 1) y ∧ wx.frozen? ⟨w1.heap.size + 1, 0, none⟩ = false ∧ wx.frozen? ⟨w1.heap.size + 1, 1, none⟩ = false ∧ Rz wx w.heap.size ∧ Rz wx (w.heap.size + 1) ∧ Below ((w1.alloc (.cells #[.bool (zneg x), .string (bs (zabs x))] 24)).alloc (.cells #[.bool (zneg y), .string (bs (zabs y))] 24)).heap.size ((w1.alloc (.cells #[.bool (zneg x), .string (bs (zabs x))] 24)).alloc (.cells #[.bool (zneg y), .string (bs (zabs y))] 24)) wx)
  case first =>
    replace HB := HB.drew
    go_region_with (first | (go_at_call 81; (refine (HF1.out _).mono ?_); rintro e u1 ⟨rfl, hb⟩; obtain ⟨hcu1, hfu1⟩ := bcell hb; have hzu1 := hb.size; (try simp at hzu1); (try have hyu1 := Nat.lt_of_succ_le hzu1); (first | replace HB := HB.trans (hb.mono HB.size) | replace HB := (HB.alloc HB.size _).trans (hb.mono (HB.alloc HB.size _).size)); obtain ⟨hdu1, hgu1⟩ := bcell HB; obtain ⟨pau1, pbu1, pcu1, pdu1⟩ : w1.heap.size < u1.heap.size ∧ w1.heap.size + 1 < u1.heap.size ∧ w.heap.size < u1.heap.size ∧ w.heap.size + 1 < u1.heap.size := (by have := HB.size; simp at this; omega); clear hb) | (go_at_call 80; (refine (HK.out _).mono ?_); rintro e u2 ⟨rfl, hb⟩; obtain ⟨hcu2, hfu2⟩ := bcell hb; have hzu2 := hb.size; (try simp at hzu2); (try have hyu2 := Nat.lt_of_succ_le hzu2); (first | replace HB := HB.trans (hb.mono HB.size) | replace HB := (HB.alloc HB.size _).trans (hb.mono (HB.alloc HB.size _).size)); obtain ⟨hdu2, hgu2⟩ := bcell HB; obtain ⟨pau2, pbu2, pcu2, pdu2⟩ : w1.heap.size < u2.heap.size ∧ w1.heap.size + 1 < u2.heap.size ∧ w.heap.size < u2.heap.size ∧ w.heap.size + 1 < u2.heap.size := (by have := HB.size; simp at this; omega); clear hb))
    all_goals
      go_wp2_with fail
      go_meet
      refine ⟨rfl, _, rfl, by omega, by first | (simp; done) | (simp; omega), ⟨by go_simp, by go_simp⟩, ⟨by go_simp, by go_simp⟩, by go_simp, by go_simp, ⟨by go_simp, by go_simp, by go_simp, by go_simp⟩, ⟨by go_simp, by go_simp, by go_simp, by go_simp⟩, ?_⟩
      first
        | exact HB.alloc HB.size _
        | exact (HB.setCell (by first | (simp; done) | (simp; omega)) _).setCell (by first | (simp; done) | (simp; omega)) _
  case rest =>
  clear HB hc hf pa pb pc pd HD1 HD2 HF1 HK HZ
  obtain ⟨rfl, g17, rfl, q1, q2, ⟨q3, q4⟩, ⟨y0, y1⟩, fy0, fy1, ⟨d50, d51, e50, e51⟩, ⟨d60, d61, e60, e61⟩, HB⟩ := hcut
  obtain ⟨pa, pb, pc, pd⟩ : w1.heap.size < wc.heap.size ∧ w1.heap.size + 1 < wc.heap.size ∧ w.heap.size < wc.heap.size ∧ w.heap.size + 1 < wc.heap.size := (by have := HB.size; simp at this; omega)
  have q2d : g17 < wc.drew.heap.size := q2
  go_upto_region 9 with fail
  go_cut [20] from 66 (fun s20 wx => ∃ g20, s20 = .pointer (some ⟨g20, 0, none⟩) ∧ w1.heap.size + 1 < g20 ∧ g20 < wx.heap.size ∧ Lies wx g20 p ∧ Lies wx (w1.heap.size + 1) y ∧ wx.frozen? ⟨w1.heap.size + 1, 0, none⟩ = false ∧ wx.frozen? ⟨w1.heap.size + 1, 1, none⟩ = false ∧ Rz wx w.heap.size ∧ Rz wx (w.heap.size + 1) ∧ Below ((w1.alloc (.cells #[.bool (zneg x), .string (bs (zabs x))] 24)).alloc (.cells #[.bool (zneg y), .string (bs (zabs y))] 24)).heap.size ((w1.alloc (.cells #[.bool (zneg x), .string (bs (zabs x))] 24)).alloc (.cells #[.bool (zneg y), .string (bs (zabs y))] 24)) wx)
  case first =>
    replace HB := HB.drew
    go_region_with (first | (go_at_call 81; (refine (HF2.out _).mono ?_); rintro e u3 ⟨rfl, hb⟩; obtain ⟨hcu3, hfu3⟩ := bcell hb; have hzu3 := hb.size; (try simp at hzu3); (try have hyu3 := Nat.lt_of_succ_le hzu3); (first | replace HB := HB.trans (hb.mono HB.size) | replace HB := (HB.alloc HB.size _).trans (hb.mono (HB.alloc HB.size _).size)); obtain ⟨hdu3, hgu3⟩ := bcell HB; obtain ⟨pau3, pbu3, pcu3, pdu3⟩ : w1.heap.size < u3.heap.size ∧ w1.heap.size + 1 < u3.heap.size ∧ w.heap.size < u3.heap.size ∧ w.heap.size + 1 < u3.heap.size := (by have := HB.size; simp at this; omega); have hka : u3.cell? ⟨g17, 0, none⟩ = some (.bool (zneg q)) := (by rw [(bcell hb).1 _ _ (by first | exact q2 | (show g17 < (wc.alloc _).heap.size; simp; omega))]; first | exact q3 | (show (wc.alloc _).cell? ⟨g17, 0, none⟩ = _; rw [World.cell?_alloc_lt (h := show (⟨g17, 0, none⟩ : Addr).block < wc.heap.size from q2)]; exact q3)); have hkb : u3.cell? ⟨g17, 1, none⟩ = some (.string (bs (zabs q))) := (by rw [(bcell hb).1 _ _ (by first | exact q2 | (show g17 < (wc.alloc _).heap.size; simp; omega))]; first | exact q4 | (show (wc.alloc _).cell? ⟨g17, 1, none⟩ = _; rw [World.cell?_alloc_lt (h := show (⟨g17, 1, none⟩ : Addr).block < wc.heap.size from q2)]; exact q4)); have hq : g17 < u3.heap.size := (by have := hb.size; simp at this; omega); clear hb) | (go_at_call 82; (refine (HM.out _).mono ?_); rintro e u4 ⟨rfl, hb⟩; obtain ⟨hcu4, hfu4⟩ := bcell hb; have hzu4 := hb.size; (try simp at hzu4); (try have hyu4 := Nat.lt_of_succ_le hzu4); (first | replace HB := HB.trans (hb.mono HB.size) | replace HB := (HB.alloc HB.size _).trans (hb.mono (HB.alloc HB.size _).size)); obtain ⟨hdu4, hgu4⟩ := bcell HB; obtain ⟨pau4, pbu4, pcu4, pdu4⟩ : w1.heap.size < u4.heap.size ∧ w1.heap.size + 1 < u4.heap.size ∧ w.heap.size < u4.heap.size ∧ w.heap.size + 1 < u4.heap.size := (by have := HB.size; simp at this; omega); clear hb))
    all_goals
      go_wp2_with fail
      go_meet
      refine ⟨_, rfl, by omega, by first | (simp; done) | (simp; omega), ⟨by go_simp, by go_simp⟩, ⟨by go_simp, by go_simp⟩, by go_simp, by go_simp, ⟨by go_simp, by go_simp, by go_simp, by go_simp⟩, ⟨by go_simp, by go_simp, by go_simp, by go_simp⟩, ?_⟩
      first
        | exact HB.alloc HB.size _
        | exact (HB.setCell (by first | (simp; done) | (simp; omega)) _).setCell (by first | (simp; done) | (simp; omega)) _
  case rest =>
  clear HB pa pb pc pd q1 q2 q2d q3 q4 y0 y1 fy0 fy1 d50 d51 e50 e51 d60 d61 e60 e61 HF2 HM c50 c51 c60 c61 f50 f51 f60 f61
  rename_i wc0
  obtain ⟨g20, rfl, q1, q2, ⟨q3, q4⟩, ⟨y0, y1⟩, fy0, fy1, ⟨d50, d51, e50, e51⟩, ⟨d60, d61, e60, e61⟩, HB⟩ := hcut
  obtain ⟨pa, pb, pc, pd⟩ : w1.heap.size < wc.heap.size ∧ w1.heap.size + 1 < wc.heap.size ∧ w.heap.size < wc.heap.size ∧ w.heap.size + 1 < wc.heap.size := (by have := HB.size; simp at this; omega)
  have HW : Below w.heap.size w wc := ((HV.alloc HV.size _).alloc (by have := HV.size; simp; omega) _).trans (HB.mono (by have := HV.size; simp; omega))
  clear HB
  go_wp2_with fail
  refine (HA.out _).mono ?_
  rintro e u5 ⟨rfl, hb⟩
  obtain ⟨hc, hf⟩ := bcell hb
  obtain ⟨ra, rb, rc, rd⟩ : w1.heap.size < u5.heap.size ∧ w1.heap.size + 1 < u5.heap.size ∧ w.heap.size < u5.heap.size ∧ w.heap.size + 1 < u5.heap.size := (by have := hb.size; omega)
  have HW5 := HW.trans (hb.mono HW.size)
  clear HW HV
  have n1 : w1.heap.size + 1 ≠ w.heap.size := by omega
  have n2 : w1.heap.size + 1 ≠ w.heap.size + 1 := by omega
  go_upto_region 11 with fail
  have l0 : ((u5.setCell ⟨w1.heap.size + 1, 0, none⟩ (.bool (zneg s))).setCell ⟨w1.heap.size + 1, 1, none⟩ (.string (bs (zabs s)))).cell? ⟨w1.heap.size + 1, 0, none⟩ = some (.bool (zneg s)) := by go_simp
  have l1 : ((u5.setCell ⟨w1.heap.size + 1, 0, none⟩ (.bool (zneg s))).setCell ⟨w1.heap.size + 1, 1, none⟩ (.string (bs (zabs s)))).cell? ⟨w1.heap.size + 1, 1, none⟩ = some (.string (bs (zabs s))) := by go_simp
  have r0a : ((u5.setCell ⟨w1.heap.size + 1, 0, none⟩ (.bool (zneg s))).setCell ⟨w1.heap.size + 1, 1, none⟩ (.string (bs (zabs s)))).cell? ⟨w.heap.size, 0, none⟩ = some (.bool false) := by go_simp
  have r0b : ((u5.setCell ⟨w1.heap.size + 1, 0, none⟩ (.bool (zneg s))).setCell ⟨w1.heap.size + 1, 1, none⟩ (.string (bs (zabs s)))).cell? ⟨w.heap.size, 1, none⟩ = some (.string ⟨#[]⟩) := by go_simp
  have f0a : ((u5.setCell ⟨w1.heap.size + 1, 0, none⟩ (.bool (zneg s))).setCell ⟨w1.heap.size + 1, 1, none⟩ (.string (bs (zabs s)))).frozen? ⟨w.heap.size, 0, none⟩ = false := by go_simp
  have f0b : ((u5.setCell ⟨w1.heap.size + 1, 0, none⟩ (.bool (zneg s))).setCell ⟨w1.heap.size + 1, 1, none⟩ (.string (bs (zabs s)))).frozen? ⟨w.heap.size, 1, none⟩ = false := by go_simp
  have r1a : ((u5.setCell ⟨w1.heap.size + 1, 0, none⟩ (.bool (zneg s))).setCell ⟨w1.heap.size + 1, 1, none⟩ (.string (bs (zabs s)))).cell? ⟨w.heap.size + 1, 0, none⟩ = some (.bool false) := by go_simp
  have r1b : ((u5.setCell ⟨w1.heap.size + 1, 0, none⟩ (.bool (zneg s))).setCell ⟨w1.heap.size + 1, 1, none⟩ (.string (bs (zabs s)))).cell? ⟨w.heap.size + 1, 1, none⟩ = some (.string ⟨#[]⟩) := by go_simp
  have f1a : ((u5.setCell ⟨w1.heap.size + 1, 0, none⟩ (.bool (zneg s))).setCell ⟨w1.heap.size + 1, 1, none⟩ (.string (bs (zabs s)))).frozen? ⟨w.heap.size + 1, 0, none⟩ = false := by go_simp
  have f1b : ((u5.setCell ⟨w1.heap.size + 1, 0, none⟩ (.bool (zneg s))).setCell ⟨w1.heap.size + 1, 1, none⟩ (.string (bs (zabs s)))).frozen? ⟨w.heap.size + 1, 1, none⟩ = false := by go_simp
  have hle : w.heap.size ≤ w1.heap.size + 1 := by omega
  have HX : Below w.heap.size w ((u5.setCell ⟨w1.heap.size + 1, 0, none⟩ (.bool (zneg s))).setCell ⟨w1.heap.size + 1, 1, none⟩ (.string (bs (zabs s)))) := (HW5.setCell (p := ⟨w1.heap.size + 1, 0, none⟩) hle _).setCell (p := ⟨w1.heap.size + 1, 1, none⟩) hle _
  have pb5 : w1.heap.size + 1 < ((u5.setCell ⟨w1.heap.size + 1, 0, none⟩ (.bool (zneg s))).setCell ⟨w1.heap.size + 1, 1, none⟩ (.string (bs (zabs s)))).heap.size := by simpa using rb
  have pc5 : w.heap.size < ((u5.setCell ⟨w1.heap.size + 1, 0, none⟩ (.bool (zneg s))).setCell ⟨w1.heap.size + 1, 1, none⟩ (.string (bs (zabs s)))).heap.size := by simpa using rc
  have pd5 : w.heap.size + 1 < ((u5.setCell ⟨w1.heap.size + 1, 0, none⟩ (.bool (zneg s))).setCell ⟨w1.heap.size + 1, 1, none⟩ (.string (bs (zabs s)))).heap.size := by simpa using rd
  clear hc hf hb ra rb rc rd HW5 HA hle pa pb pc pd q1 q2 q3 q4 y0 y1 fy0 fy1 d50 d51 e50 e51 d60 d61 e60 e61
  generalize ((u5.setCell ⟨w1.heap.size + 1, 0, none⟩ (.bool (zneg s))).setCell ⟨w1.heap.size + 1, 1, none⟩ (.string (bs (zabs s)))) = v5 at *
  go_region_with (go_at_call 81; (refine (HF3.out _).mono ?_); rintro e w6 ⟨rfl, hb⟩; have m0 : w6.cell? ⟨w1.heap.size + 1, 0, none⟩ = some (.bool (zneg s)) := (by rw [(bcell hb).1 _ _ pb5]; exact l0); have m1 : w6.cell? ⟨w1.heap.size + 1, 1, none⟩ = some (.string (bs (zabs s))) := (by rw [(bcell hb).1 _ _ pb5]; exact l1); have n0a : w6.cell? ⟨w.heap.size, 0, none⟩ = some (.bool false) := (by rw [(bcell hb).1 _ _ pc5]; exact r0a); have n0b : w6.cell? ⟨w.heap.size, 1, none⟩ = some (.string ⟨#[]⟩) := (by rw [(bcell hb).1 _ _ pc5]; exact r0b); have o0a : w6.frozen? ⟨w.heap.size, 0, none⟩ = false := (by rw [(bcell hb).2 _ _ pc5]; exact f0a); have o0b : w6.frozen? ⟨w.heap.size, 1, none⟩ = false := (by rw [(bcell hb).2 _ _ pc5]; exact f0b); have n1a : w6.cell? ⟨w.heap.size + 1, 0, none⟩ = some (.bool false) := (by rw [(bcell hb).1 _ _ pd5]; exact r1a); have n1b : w6.cell? ⟨w.heap.size + 1, 1, none⟩ = some (.string ⟨#[]⟩) := (by rw [(bcell hb).1 _ _ pd5]; exact r1b); have o1a : w6.frozen? ⟨w.heap.size + 1, 0, none⟩ = false := (by rw [(bcell hb).2 _ _ pd5]; exact f1a); have o1b : w6.frozen? ⟨w.heap.size + 1, 1, none⟩ = false := (by rw [(bcell hb).2 _ _ pd5]; exact f1b); have HV6 := HX.drew.trans (hb.mono HX.drew.size))
  all_goals
    go_wp2
    exact bodyPost_ret (v := .tuple #[.string (bs g), (.agg #[.bool (zneg r), .string (bs (zabs r))]), (.agg #[.bool (zneg s), .string (bs (zabs s))]), .int .i64 0]) (by simp [results, Tryz.results44, go_sem, n0a, n0b, n1a, n1b]) rfl ⟨rfl, (((HV6.setCell (Nat.le_refl _) _).setCell (Nat.le_refl _) _).setCell (Nat.le_succ _) _).setCell (Nat.le_succ _) _⟩
end Go.Proofs.YtppdolmeeiookaaGreat
