/-
  The contract of integer.reduce.
-/
import Derived.Test.YtmiafkbjmkaebaaGreatIntN
import Derived.Deep.Cut
import Derived.Deep.CutRange
namespace Go.Proofs.YtmiafkbjmkaebaaGreat
open Go.RowKit Num

/-- An integer lies in a block. -/
def Lies (wx : World) (g : Nat) (z : Int) : Prop := wx.cell? ⟨g, 0, none⟩ = some (.bool (zneg z)) ∧ wx.cell? ⟨g, 1, none⟩ = some (.string (bs (zabs z)))

set_option maxHeartbeats 8000000 in
set_option maxRecDepth 100000 in
theorem reduce_ok {x y : Int} {a b g m f : Nat} (hx : zabs x < Top) (hy : zabs y < Top) (ha : a < Top) (hb : b < Top) (hg : g < Top) (g0 : g ≠ 0) (hm : b / g = m) (hf : a / g = f) (m0 : m ≠ 0) (hk : zabs (x / (m : Int)) < Top) (hc : zabs (x / (m : Int) * (f : Int)) < Top) (hs : zabs (y + x / (m : Int) * (f : Int)) < Top) (w : World) :
    Calls Tryz.prog 123 #[(.agg #[.bool (zneg x), .string (bs (zabs x))]), (.agg #[.bool (zneg y), .string (bs (zabs y))]), .string (bs a), .string (bs b), .string (bs g)] w (Made w (.tuple #[(.agg #[.bool (zneg (x % (m : Int))), .string (bs (zabs (x % (m : Int))))]), (.agg #[.bool (zneg (y + x / (m : Int) * (f : Int))), .string (bs (zabs (y + x / (m : Int) * (f : Int))))])])) := by
  have hmT : m < Top := by rw [← hm]; exact Nat.lt_of_le_of_lt (Nat.div_le_self _ _) hb
  have hfT : f < Top := by rw [← hf]; exact Nat.lt_of_le_of_lt (Nat.div_le_self _ _) ha
  have hr0 : 0 ≤ x % (m : Int) := Int.emod_nonneg _ (by omega)
  have hrT : zabs (x % (m : Int)) < Top := by
    have := Int.emod_lt_of_pos x (show (0 : Int) < m by omega)
    unfold zabs
    omega
  have HD1 := Lib.hid (fun W => divmod_ok hb hg g0 W)
  have HD2 := Lib.hid (fun W => divmod_ok ha hg g0 W)
  rw [hm] at HD1
  rw [hf] at HD2
  have HF1 := Lib.hid (fun W => from_yes hmT W)
  have HK := Lib.hid (fun W => idivmod_ok hx (by rw [zabs_nat]; exact hmT) (by rw [zabs_nat]; exact m0) W)
  have HF2 := Lib.hid (fun W => from_yes hfT W)
  have HM := Lib.hid (fun W => imul_ok hk (by rw [zabs_nat]; exact hfT) hc W)
  have HA := Lib.hid (fun W => iadd_ok hy hc hs W)
  have HF3 := Lib.hid (fun W => from_yes hrT W)
  rw [show ((zabs (x % (m : Int)) : Nat) : Int) = x % (m : Int) from by unfold zabs; omega] at HF3
  obtain ⟨r, hr⟩ : ∃ r, r = x % (m : Int) := ⟨_, rfl⟩
  obtain ⟨k, hkk⟩ : ∃ k, k = x / (m : Int) := ⟨_, rfl⟩
  rw [← hr] at HK HF3 ⊢
  rw [← hkk] at HK HM HA ⊢
  obtain ⟨c, hcc⟩ : ∃ c, c = k * (f : Int) := ⟨_, rfl⟩
  rw [← hcc] at HM HA ⊢
  obtain ⟨s, hss⟩ : ∃ s, s = y + c := ⟨_, rfl⟩
  rw [← hss] at HA ⊢
  clear hx hy ha hb hg g0 hm hf m0 hk hc hs hmT hfT hr0 hrT hr hkk hcc hss
  go_enter Tryz.func123, Tryz.ntmps123
  go_wp2_with fail
  refine (HD1.out _).mono ?_
  rintro e w1 ⟨rfl, hb⟩
  have HB := hb
  clear hb
  obtain ⟨hc, hf⟩ := bcell HB
  go_wp2_with fail
  refine (HD2.out _).mono ?_
  rintro e w2 ⟨rfl, hb⟩
  replace HB := HB.trans (hb.mono HB.size)
  clear hb hc hf
  obtain ⟨hc, hf⟩ := bcell HB
  obtain ⟨pa2, pb2, pc2, pd2⟩ : w.heap.size < w2.heap.size ∧ w.heap.size + 1 < w2.heap.size ∧ w.heap.size + 1 + 1 < w2.heap.size ∧ w.heap.size + 1 + 1 + 1 < w2.heap.size := (by have := HB.size; simp at this; omega)
  go_upto_region 3 with fail
  go_cut [18, 19, 20] from 37 (fun s18 s19 s20 wx => s19 = .string (bs (zabs r)) ∧ ∃ g1, s18 = .pointer (some ⟨g1, 0, none⟩) ∧ w.heap.size + 3 < g1 ∧ g1 < wx.heap.size ∧ Lies wx g1 k ∧ Below (((((w.alloc (.cells #[.bool (zneg x), .string (bs (zabs x))] 38)).alloc (.cells #[.bool (zneg y), .string (bs (zabs y))] 38)).alloc (.cells #[.bool false, .string ⟨#[]⟩] 38)).alloc (.cells #[.bool false, .string ⟨#[]⟩] 38))).heap.size (((((w.alloc (.cells #[.bool (zneg x), .string (bs (zabs x))] 38)).alloc (.cells #[.bool (zneg y), .string (bs (zabs y))] 38)).alloc (.cells #[.bool false, .string ⟨#[]⟩] 38)).alloc (.cells #[.bool false, .string ⟨#[]⟩] 38))) wx)
  case first =>
    replace HB := HB.drew
    go_region_with (first | (go_at_call 122; (refine (HF1.out _).mono ?_); rintro e w3 ⟨rfl, hb⟩; obtain ⟨hc3, hf3⟩ := bcell hb; have hz3 := hb.size; (try simp at hz3); (try have hy3 := Nat.lt_of_succ_le hz3); (first | replace HB := HB.trans (hb.mono HB.size) | replace HB := (HB.alloc HB.size _).trans (hb.mono (HB.alloc HB.size _).size)); obtain ⟨hd3, hg3⟩ := bcell HB; obtain ⟨pa3, pb3, pc3, pd3⟩ : w.heap.size < w3.heap.size ∧ w.heap.size + 1 < w3.heap.size ∧ w.heap.size + 1 + 1 < w3.heap.size ∧ w.heap.size + 1 + 1 + 1 < w3.heap.size := (by have := HB.size; simp at this; omega);  clear hb) | (go_at_call 138; (refine (HK.out _).mono ?_); rintro e w4 ⟨rfl, hb⟩; obtain ⟨hc4, hf4⟩ := bcell hb; have hz4 := hb.size; (try simp at hz4); (try have hy4 := Nat.lt_of_succ_le hz4); (first | replace HB := HB.trans (hb.mono HB.size) | replace HB := (HB.alloc HB.size _).trans (hb.mono (HB.alloc HB.size _).size)); obtain ⟨hd4, hg4⟩ := bcell HB; obtain ⟨pa4, pb4, pc4, pd4⟩ : w.heap.size < w4.heap.size ∧ w.heap.size + 1 < w4.heap.size ∧ w.heap.size + 1 + 1 < w4.heap.size ∧ w.heap.size + 1 + 1 + 1 < w4.heap.size := (by have := HB.size; simp at this; omega);  clear hb))
    all_goals
      go_wp2_with fail
      go_meet
      refine ⟨rfl, _, rfl, by omega, by first | (simp; done) | (simp; omega), ⟨by go_simp, by go_simp⟩, ?_⟩
      first
        | exact HB.alloc HB.size _
        | exact (HB.setCell (by simp; omega) _).setCell (by simp; omega) _
  case rest =>
  clear HB hc hf pa2 pb2 pc2 pd2 HD1 HD2 HF1 HK
  obtain ⟨rfl, g1, rfl, q1, q2, ⟨q3, q4⟩, HB⟩ := hcut
  obtain ⟨hc, hf⟩ := bcell HB
  have q2d : g1 < wc.drew.heap.size := q2
  obtain ⟨pa2, pb2, pc2, pd2⟩ : w.heap.size < wc.heap.size ∧ w.heap.size + 1 < wc.heap.size ∧ w.heap.size + 1 + 1 < wc.heap.size ∧ w.heap.size + 1 + 1 + 1 < wc.heap.size := (by have := HB.size; simp at this; omega)
  go_upto_region 4 with fail
  go_cut [21, 22] from 45 (fun s21 s22 wx => s22 = .int .i64 0 ∧ ∃ g2, s21 = .pointer (some ⟨g2, 0, none⟩) ∧ w.heap.size + 3 < g2 ∧ g2 < wx.heap.size ∧ Lies wx g2 c ∧ Below (((((w.alloc (.cells #[.bool (zneg x), .string (bs (zabs x))] 38)).alloc (.cells #[.bool (zneg y), .string (bs (zabs y))] 38)).alloc (.cells #[.bool false, .string ⟨#[]⟩] 38)).alloc (.cells #[.bool false, .string ⟨#[]⟩] 38))).heap.size (((((w.alloc (.cells #[.bool (zneg x), .string (bs (zabs x))] 38)).alloc (.cells #[.bool (zneg y), .string (bs (zabs y))] 38)).alloc (.cells #[.bool false, .string ⟨#[]⟩] 38)).alloc (.cells #[.bool false, .string ⟨#[]⟩] 38))) wx)
  case first =>
    replace HB := HB.drew
    go_region_with (first | (go_at_call 122; (refine (HF2.out _).mono ?_); rintro e w3 ⟨rfl, hb⟩; obtain ⟨hc3, hf3⟩ := bcell hb; have hz3 := hb.size; (try simp at hz3); (try have hy3 := Nat.lt_of_succ_le hz3); (first | replace HB := HB.trans (hb.mono HB.size) | replace HB := (HB.alloc HB.size _).trans (hb.mono (HB.alloc HB.size _).size)); obtain ⟨hd3, hg3⟩ := bcell HB; obtain ⟨pa3, pb3, pc3, pd3⟩ : w.heap.size < w3.heap.size ∧ w.heap.size + 1 < w3.heap.size ∧ w.heap.size + 1 + 1 < w3.heap.size ∧ w.heap.size + 1 + 1 + 1 < w3.heap.size := (by have := HB.size; simp at this; omega); have hq3 : g1 < w3.heap.size := (by have := hb.size; simp at this; omega); have hka : w3.cell? ⟨g1, 0, none⟩ = some (.bool (zneg k)) := (by rw [(bcell hb).1 _ _ (by first | exact q2 | (show g1 < (wc.alloc _).heap.size; simp; omega))]; first | exact q3 | (show (wc.alloc _).cell? ⟨g1, 0, none⟩ = _; rw [World.cell?_alloc_lt (h := show (⟨g1, 0, none⟩ : Addr).block < wc.heap.size from q2)]; exact q3)); have hkb : w3.cell? ⟨g1, 1, none⟩ = some (.string (bs (zabs k))) := (by rw [(bcell hb).1 _ _ (by first | exact q2 | (show g1 < (wc.alloc _).heap.size; simp; omega))]; first | exact q4 | (show (wc.alloc _).cell? ⟨g1, 1, none⟩ = _; rw [World.cell?_alloc_lt (h := show (⟨g1, 1, none⟩ : Addr).block < wc.heap.size from q2)]; exact q4)); clear hb) | (go_at_call 136; (refine (HM.out _).mono ?_); rintro e w4 ⟨rfl, hb⟩; obtain ⟨hc4, hf4⟩ := bcell hb; have hz4 := hb.size; (try simp at hz4); (try have hy4 := Nat.lt_of_succ_le hz4); (first | replace HB := HB.trans (hb.mono HB.size) | replace HB := (HB.alloc HB.size _).trans (hb.mono (HB.alloc HB.size _).size)); obtain ⟨hd4, hg4⟩ := bcell HB; obtain ⟨pa4, pb4, pc4, pd4⟩ : w.heap.size < w4.heap.size ∧ w.heap.size + 1 < w4.heap.size ∧ w.heap.size + 1 + 1 < w4.heap.size ∧ w.heap.size + 1 + 1 + 1 < w4.heap.size := (by have := HB.size; simp at this; omega);  clear hb))
    all_goals
      go_wp2_with fail
      go_meet
      refine ⟨rfl, _, rfl, by omega, by first | (simp; done) | (simp; omega), ⟨by go_simp, by go_simp⟩, ?_⟩
      first
        | exact HB.alloc HB.size _
        | exact (HB.setCell (by simp; omega) _).setCell (by simp; omega) _
  case rest =>
  clear HB hc hf pa2 pb2 pc2 pd2 q1 q2 q2d q3 q4 HF2 HM
  rename_i wc0
  obtain ⟨rfl, g2, rfl, q1, q2, ⟨q3, q4⟩, HB⟩ := hcut
  obtain ⟨hc, hf⟩ := bcell HB
  go_wp2_with fail
  refine (HA.out _).mono ?_
  rintro e w5 ⟨rfl, hb⟩
  replace HB := HB.trans (hb.mono HB.size)
  clear hb hc hf
  obtain ⟨hc, hf⟩ := bcell HB
  obtain ⟨pa5, pb5, pc5, pd5⟩ : w.heap.size < w5.heap.size ∧ w.heap.size + 1 < w5.heap.size ∧ w.heap.size + 1 + 1 < w5.heap.size ∧ w.heap.size + 1 + 1 + 1 < w5.heap.size := (by have := HB.size; simp at this; omega)
  go_upto_region 6 with fail
  have l0 : ((w5.setCell ⟨w.heap.size + 1, 0, none⟩ (.bool (zneg s))).setCell ⟨w.heap.size + 1, 1, none⟩ (.string (bs (zabs s)))).cell? ⟨w.heap.size + 1, 0, none⟩ = some (.bool (zneg s)) := by go_simp
  have l1 : ((w5.setCell ⟨w.heap.size + 1, 0, none⟩ (.bool (zneg s))).setCell ⟨w.heap.size + 1, 1, none⟩ (.string (bs (zabs s)))).cell? ⟨w.heap.size + 1, 1, none⟩ = some (.string (bs (zabs s))) := by go_simp
  have r0a : ((w5.setCell ⟨w.heap.size + 1, 0, none⟩ (.bool (zneg s))).setCell ⟨w.heap.size + 1, 1, none⟩ (.string (bs (zabs s)))).cell? ⟨w.heap.size + 1 + 1, 0, none⟩ = some (.bool false) := by go_simp
  have r0b : ((w5.setCell ⟨w.heap.size + 1, 0, none⟩ (.bool (zneg s))).setCell ⟨w.heap.size + 1, 1, none⟩ (.string (bs (zabs s)))).cell? ⟨w.heap.size + 1 + 1, 1, none⟩ = some (.string ⟨#[]⟩) := by go_simp
  have f0a : ((w5.setCell ⟨w.heap.size + 1, 0, none⟩ (.bool (zneg s))).setCell ⟨w.heap.size + 1, 1, none⟩ (.string (bs (zabs s)))).frozen? ⟨w.heap.size + 1 + 1, 0, none⟩ = false := by go_simp
  have f0b : ((w5.setCell ⟨w.heap.size + 1, 0, none⟩ (.bool (zneg s))).setCell ⟨w.heap.size + 1, 1, none⟩ (.string (bs (zabs s)))).frozen? ⟨w.heap.size + 1 + 1, 1, none⟩ = false := by go_simp
  have r1a : ((w5.setCell ⟨w.heap.size + 1, 0, none⟩ (.bool (zneg s))).setCell ⟨w.heap.size + 1, 1, none⟩ (.string (bs (zabs s)))).cell? ⟨w.heap.size + 1 + 1 + 1, 0, none⟩ = some (.bool false) := by go_simp
  have r1b : ((w5.setCell ⟨w.heap.size + 1, 0, none⟩ (.bool (zneg s))).setCell ⟨w.heap.size + 1, 1, none⟩ (.string (bs (zabs s)))).cell? ⟨w.heap.size + 1 + 1 + 1, 1, none⟩ = some (.string ⟨#[]⟩) := by go_simp
  have f1a : ((w5.setCell ⟨w.heap.size + 1, 0, none⟩ (.bool (zneg s))).setCell ⟨w.heap.size + 1, 1, none⟩ (.string (bs (zabs s)))).frozen? ⟨w.heap.size + 1 + 1 + 1, 0, none⟩ = false := by go_simp
  have f1b : ((w5.setCell ⟨w.heap.size + 1, 0, none⟩ (.bool (zneg s))).setCell ⟨w.heap.size + 1, 1, none⟩ (.string (bs (zabs s)))).frozen? ⟨w.heap.size + 1 + 1 + 1, 1, none⟩ = false := by go_simp
  have HV : Below w.heap.size w ((w5.setCell ⟨w.heap.size + 1, 0, none⟩ (.bool (zneg s))).setCell ⟨w.heap.size + 1, 1, none⟩ (.string (bs (zabs s)))) := (((((((Below.refl w.heap.size w).alloc (Nat.le_refl _) _).alloc (by simp) _).alloc (by simp; omega) _).alloc (by simp; omega) _).trans (HB.mono (by simp; omega))).setCell (Nat.le_succ _) _).setCell (Nat.le_succ _) _
  have pb : w.heap.size + 1 < ((w5.setCell ⟨w.heap.size + 1, 0, none⟩ (.bool (zneg s))).setCell ⟨w.heap.size + 1, 1, none⟩ (.string (bs (zabs s)))).heap.size := by simpa using pb5
  have pc : w.heap.size + 1 + 1 < ((w5.setCell ⟨w.heap.size + 1, 0, none⟩ (.bool (zneg s))).setCell ⟨w.heap.size + 1, 1, none⟩ (.string (bs (zabs s)))).heap.size := by simpa using pc5
  have pd : w.heap.size + 1 + 1 + 1 < ((w5.setCell ⟨w.heap.size + 1, 0, none⟩ (.bool (zneg s))).setCell ⟨w.heap.size + 1, 1, none⟩ (.string (bs (zabs s)))).heap.size := by simpa using pd5
  clear hc hf HB pa5 pb5 pc5 pd5 q1 q2 q3 q4 HA
  generalize ((w5.setCell ⟨w.heap.size + 1, 0, none⟩ (.bool (zneg s))).setCell ⟨w.heap.size + 1, 1, none⟩ (.string (bs (zabs s)))) = v5 at *
  go_region_with (go_at_call 122; (refine (HF3.out _).mono ?_); rintro e w6 ⟨rfl, hb⟩; have m0 : w6.cell? ⟨w.heap.size + 1, 0, none⟩ = some (.bool (zneg s)) := (by rw [(bcell hb).1 _ _ pb]; exact l0); have m1 : w6.cell? ⟨w.heap.size + 1, 1, none⟩ = some (.string (bs (zabs s))) := (by rw [(bcell hb).1 _ _ pb]; exact l1); have n0a : w6.cell? ⟨w.heap.size + 1 + 1, 0, none⟩ = some (.bool false) := (by rw [(bcell hb).1 _ _ pc]; exact r0a); have n0b : w6.cell? ⟨w.heap.size + 1 + 1, 1, none⟩ = some (.string ⟨#[]⟩) := (by rw [(bcell hb).1 _ _ pc]; exact r0b); have o0a : w6.frozen? ⟨w.heap.size + 1 + 1, 0, none⟩ = false := (by rw [(bcell hb).2 _ _ pc]; exact f0a); have o0b : w6.frozen? ⟨w.heap.size + 1 + 1, 1, none⟩ = false := (by rw [(bcell hb).2 _ _ pc]; exact f0b); have n1a : w6.cell? ⟨w.heap.size + 1 + 1 + 1, 0, none⟩ = some (.bool false) := (by rw [(bcell hb).1 _ _ pd]; exact r1a); have n1b : w6.cell? ⟨w.heap.size + 1 + 1 + 1, 1, none⟩ = some (.string ⟨#[]⟩) := (by rw [(bcell hb).1 _ _ pd]; exact r1b); have o1a : w6.frozen? ⟨w.heap.size + 1 + 1 + 1, 0, none⟩ = false := (by rw [(bcell hb).2 _ _ pd]; exact f1a); have o1b : w6.frozen? ⟨w.heap.size + 1 + 1 + 1, 1, none⟩ = false := (by rw [(bcell hb).2 _ _ pd]; exact f1b); have HV6 := HV.drew.trans (hb.mono HV.drew.size))
  all_goals
    go_wp2
    exact bodyPost_ret (v := .tuple #[(.agg #[.bool (zneg r), .string (bs (zabs r))]), (.agg #[.bool (zneg s), .string (bs (zabs s))])]) (by simp [results, Tryz.results123, go_sem, n0a, n0b, n1a, n1b]) rfl ⟨rfl, (((HV6.setCell (by simp; omega) _).setCell (by simp; omega) _).setCell (by simp; omega) _).setCell (by simp; omega) _⟩

end Go.Proofs.YtmiafkbjmkaebaaGreat
