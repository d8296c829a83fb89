/-
  dominolaw02.IntegerBezout returns true: the walk.
-/
import Derived.Test.YtehpdpcpdfgnlaaIntT
import Derived.Test.YtehpdpcpdfgnlaaIntW
import Derived.Deep.Cut
import Derived.Deep.CutRange
import Derived.Deep.RegionHeld3
namespace Go.Proofs.Ytehpdpcpdfgnlaa
open Go.RowKit Num

/-- An integer lies in block g. -/
def Lb (w : World) (g : Nat) (b : Bool) (t : ByteArray) : Prop := g < w.heap.size ∧ w.cell? ⟨g, 0, none⟩ = some (.bool b) ∧ w.cell? ⟨g, 1, none⟩ = some (.string t)
theorem Lb.of {w : World} {g : Nat} {b : Bool} {t : ByteArray} {T : TypeId} (h : Bk w g #[.bool b, .string t] T) : Lb w g b t := ⟨h.lt, h.cell 0, h.cell 1⟩
theorem Lb.below {w w' : World} {g : Nat} {b : Bool} {t : ByteArray} (h : Lb w g b t) (hb : Below w.heap.size w w') : Lb w' g b t :=
  ⟨Nat.lt_of_lt_of_le h.1 hb.size, ((bcell hb).1 _ _ h.1).trans h.2.1, ((bcell hb).1 _ _ h.1).trans h.2.2⟩
theorem Lb.drew {w : World} {g : Nat} {b : Bool} {t : ByteArray} (h : Lb w g b t) : Lb w.drew g b t := h
theorem Lb.alloc {w : World} {g : Nat} {b : Bool} {t : ByteArray} (h : Lb w g b t) (o : Obj) : Lb (w.alloc o) g b t :=
  ⟨by have := h.1; simp; omega, by rw [World.cell?_alloc_lt (h := show (⟨g, 0, none⟩ : Addr).block < w.heap.size from h.1)]; exact h.2.1, by rw [World.cell?_alloc_lt (h := show (⟨g, 1, none⟩ : Addr).block < w.heap.size from h.1)]; exact h.2.2⟩
theorem Lb.far {w : World} {g : Nat} {b : Bool} {t : ByteArray} (h : Lb w g b t) {p : Addr} (hp : g ≠ p.block) (u : Value) : Lb (w.setCell p u) g b t :=
  ⟨by have := h.1; simpa [World.setCell] using this, by rw [World.cell?_setCell_other (h := fun e => hp (by rw [e]))]; exact h.2.1, by rw [World.cell?_setCell_other (h := fun e => hp (by rw [e]))]; exact h.2.2⟩

set_option maxHeartbeats 16000000 in
set_option maxRecDepth 100000 in
theorem ibezout_core (bX bY bA bB bP bQ bG : Bool) (a b g tX tY tA tB tP tQ tG q1 m r0 : ByteArray) (w : World) (hs : a.size ≤ 50) (ht : b.size ≤ 50)
    (cV1 : ∀ W, Calls Try.prog 53 #[.string a] W (Same W (.bool true)))
    (cV2 : ∀ W, Calls Try.prog 53 #[.string b] W (Same W (.bool true)))
    (cE1 : ∀ W, Calls Try.prog 46 #[.string a, .string b] W (Made W (.tuple #[.string g, .agg #[.bool bX, .string tX], .agg #[.bool bY, .string tY], .int .i64 0])))
    (cFA : ∀ W, Calls Try.prog 28 #[.string a] W (Made W (.agg #[.bool bA, .string tA])))
    (cM1 : ∀ W, Calls Try.prog 38 #[.agg #[.bool bA, .string tA], .agg #[.bool bX, .string tX]] W (Made W (.tuple #[.agg #[.bool bP, .string tP], .int .i64 0])))
    (cFB : ∀ W, Calls Try.prog 28 #[.string b] W (Made W (.agg #[.bool bB, .string tB])))
    (cM2 : ∀ W, Calls Try.prog 38 #[.agg #[.bool bB, .string tB], .agg #[.bool bY, .string tY]] W (Made W (.tuple #[.agg #[.bool bQ, .string tQ], .int .i64 0])))
    (cAD : ∀ W, Calls Try.prog 34 #[.agg #[.bool bP, .string tP], .agg #[.bool bQ, .string tQ]] W (Made W (.tuple #[.agg #[.bool bG, .string tG], .int .i64 0])))
    (cFG : ∀ W, Calls Try.prog 28 #[.string g] W (Made W (.agg #[.bool bG, .string tG])))
    (hc : (g.toList.isEmpty = true ∧ a.toList.isEmpty = true ∧ b.toList.isEmpty = true) ∨ (g.toList.isEmpty = false ∧ bX = false ∧ r0.toList.isEmpty = true ∧ (∀ W, Calls Try.prog 54 #[.string a, .string g] W (Made W (.tuple #[.string q1, .string r0, .int .i64 0]))) ∧ (∀ W, Calls Try.prog 54 #[.string b, .string g] W (Made W (.tuple #[.string m, .string r0, .int .i64 0]))) ∧ (b.toList.isEmpty = true ∨ (b.toList.isEmpty = false ∧ (∀ W, Calls Try.prog 52 #[.string tX, .string m] W (Same W (.int .i64 (-1)))))))) :
    Calls Try.prog 13 #[.string a, .string b] w (Made w (.bool true)) := by
  have V1 := Lib.hid cV1
  have V2 := Lib.hid cV2
  have E1 := Lib.hid cE1
  have FA := Lib.hid cFA
  have M1 := Lib.hid cM1
  have FB := Lib.hid cFB
  have M2 := Lib.hid cM2
  have AD := Lib.hid cAD
  have FG := Lib.hid cFG
  clear cV1 cV2 cE1 cFA cM1 cFB cM2 cAD cFG
  have HC := Lib.hid hc
  clear hc
  have HV : Below w.heap.size w w := Below.refl _ _
  go_enter Try.func13, Try.ntmps13
  go_wp2_with fail
  refine (V1.out _).mono ?_
  rintro e w' ⟨rfl, rfl⟩
  go_wp2_with fail
  refine (V2.out _).mono ?_
  rintro e w' ⟨rfl, rfl⟩
  go_wp2_with fail
  refine (E1.out _).mono ?_
  rintro e u1 ⟨rfl, hb⟩
  replace HV := HV.trans (hb.mono HV.size)
  clear hb
  have K6 := Lb.of ((Bk.new u1 #[.bool bX, .string tX] 37).alloc (.cells #[.bool bY, .string tY] 37))
  have K7 := Lb.of (Bk.new1 u1 (.cells #[.bool bX, .string tX] 37) #[.bool bY, .string tY] 37)
  replace HV := (HV.alloc HV.size (.cells #[.bool bX, .string tX] 37)).alloc (HV.alloc HV.size _).size (.cells #[.bool bY, .string tY] 37)
  go_upto_region 4 with fail
  generalize (u1.alloc (.cells #[.bool bX, .string tX] 37)).alloc (.cells #[.bool bY, .string tY] 37) = va at *
  go_cut [9, 10] from 48 (fun so se wx => se = .int .i64 0 ∧ ∃ gn, so = .pointer (some ⟨gn, 0, none⟩) ∧ Lb wx gn bP tP ∧ Lb wx (u1.heap.size) bX tX ∧ Lb wx (u1.heap.size + 1) bY tY ∧ Below w.heap.size w wx)
  case first =>
    have qK6 : _ < va.heap.size := K6.1
    have qK7 : _ < va.heap.size := K7.1
    have xa : va.cell? ⟨u1.heap.size, 0, none⟩ = some (.bool bX) := K6.2.1
    have xb : va.cell? ⟨u1.heap.size, 1, none⟩ = some (.string tX) := K6.2.2
    have hbs0 : w.heap.size ≤ va.heap.size := HV.size
    replace K6 := K6.drew
    replace K7 := K7.drew
    have qdK6 : _ < va.drew.heap.size := K6.1
    have qdK7 : _ < va.drew.heap.size := K7.1
    replace HV := HV.drew
    have hbs := HV.size
    go_region_with (first | (go_at_call 28; (refine (FA.out _).mono ?_); rintro e p1 ⟨rfl, hb⟩; (first | replace K6 := K6.below hb | replace K6 := (K6.alloc _).below hb); (first | replace K7 := K7.below hb | replace K7 := (K7.alloc _).below hb); (first | replace HV := HV.trans (hb.mono HV.size) | replace HV := (HV.alloc HV.size _).trans (hb.mono (HV.alloc HV.size _).size)); obtain ⟨hcp1, hfp1⟩ := bcell hb; have hzp1 := hb.size; (try simp at hzp1); (try have hyp1 := Nat.lt_of_succ_le hzp1); clear hb; have p1xa := K6.2.1; have p1xb := K6.2.2; have p1xl := K6.1; have p1hv := HV.size; have p1rK6 := K6.1; have p1rK7 := K7.1) | (go_at_call 38; (refine (M1.out _).mono ?_); rintro e p2 ⟨rfl, hb⟩; (first | replace K6 := K6.below hb | replace K6 := (K6.alloc _).below hb); (first | replace K7 := K7.below hb | replace K7 := (K7.alloc _).below hb); (first | replace HV := HV.trans (hb.mono HV.size) | replace HV := (HV.alloc HV.size _).trans (hb.mono (HV.alloc HV.size _).size)); obtain ⟨hcp2, hfp2⟩ := bcell hb; have hzp2 := hb.size; (try simp at hzp2); (try have hyp2 := Nat.lt_of_succ_le hzp2); clear hb; have p2xa := K6.2.1; have p2xb := K6.2.2; have p2xl := K6.1; have p2hv := HV.size; have p2rK6 := K6.1; have p2rK7 := K7.1; (try have hw := Nat.lt_of_lt_of_le hyp1 hzp2)))
    all_goals
      go_wp2_with fail
      go_meet
      first
        | exact ⟨rfl, _, rfl, Lb.of (Bk.new _ _ _), K6.alloc _, K7.alloc _, HV.alloc HV.size _⟩
        | exact ⟨rfl, _, rfl, ⟨by first | (simp; done) | (simp; omega), by go_simp, by go_simp⟩, (K6.far (by first | omega | (dsimp only; omega)) _).far (by first | omega | (dsimp only; omega)) _, (K7.far (by first | omega | (dsimp only; omega)) _).far (by first | omega | (dsimp only; omega)) _, (HV.setCell (by first | omega | (dsimp only; omega)) _).setCell (by first | omega | (dsimp only; omega)) _⟩
  case rest =>
  clear K6 K7 HV
  obtain ⟨rfl, gp, rfl, K9, K6, K7, HV⟩ := hcut
  generalize wc = vp at *
  go_upto_region 5 with fail
  go_cut [11, 12] from 55 (fun so se wx => se = .int .i64 0 ∧ ∃ gn, so = .pointer (some ⟨gn, 0, none⟩) ∧ Lb wx gn bQ tQ ∧ Lb wx (u1.heap.size) bX tX ∧ Lb wx (u1.heap.size + 1) bY tY ∧ Lb wx (gp) bP tP ∧ Below w.heap.size w wx)
  case first =>
    have qK6 : _ < vp.heap.size := K6.1
    have qK7 : _ < vp.heap.size := K7.1
    have qK9 : _ < vp.heap.size := K9.1
    have xa : vp.cell? ⟨u1.heap.size + 1, 0, none⟩ = some (.bool bY) := K7.2.1
    have xb : vp.cell? ⟨u1.heap.size + 1, 1, none⟩ = some (.string tY) := K7.2.2
    have hbs0 : w.heap.size ≤ vp.heap.size := HV.size
    replace K6 := K6.drew
    replace K7 := K7.drew
    replace K9 := K9.drew
    have qdK6 : _ < vp.drew.heap.size := K6.1
    have qdK7 : _ < vp.drew.heap.size := K7.1
    have qdK9 : _ < vp.drew.heap.size := K9.1
    replace HV := HV.drew
    have hbs := HV.size
    go_region_with (first | (go_at_call 28; (refine (FB.out _).mono ?_); rintro e q1 ⟨rfl, hb⟩; (first | replace K6 := K6.below hb | replace K6 := (K6.alloc _).below hb); (first | replace K7 := K7.below hb | replace K7 := (K7.alloc _).below hb); (first | replace K9 := K9.below hb | replace K9 := (K9.alloc _).below hb); (first | replace HV := HV.trans (hb.mono HV.size) | replace HV := (HV.alloc HV.size _).trans (hb.mono (HV.alloc HV.size _).size)); obtain ⟨hcq1, hfq1⟩ := bcell hb; have hzq1 := hb.size; (try simp at hzq1); (try have hyq1 := Nat.lt_of_succ_le hzq1); clear hb; have q1xa := K7.2.1; have q1xb := K7.2.2; have q1xl := K7.1; have q1hv := HV.size; have q1rK6 := K6.1; have q1rK7 := K7.1; have q1rK9 := K9.1) | (go_at_call 38; (refine (M2.out _).mono ?_); rintro e q2 ⟨rfl, hb⟩; (first | replace K6 := K6.below hb | replace K6 := (K6.alloc _).below hb); (first | replace K7 := K7.below hb | replace K7 := (K7.alloc _).below hb); (first | replace K9 := K9.below hb | replace K9 := (K9.alloc _).below hb); (first | replace HV := HV.trans (hb.mono HV.size) | replace HV := (HV.alloc HV.size _).trans (hb.mono (HV.alloc HV.size _).size)); obtain ⟨hcq2, hfq2⟩ := bcell hb; have hzq2 := hb.size; (try simp at hzq2); (try have hyq2 := Nat.lt_of_succ_le hzq2); clear hb; have q2xa := K7.2.1; have q2xb := K7.2.2; have q2xl := K7.1; have q2hv := HV.size; have q2rK6 := K6.1; have q2rK7 := K7.1; have q2rK9 := K9.1; (try have hw := Nat.lt_of_lt_of_le hyq1 hzq2)))
    all_goals
      go_wp2_with fail
      go_meet
      first
        | exact ⟨rfl, _, rfl, Lb.of (Bk.new _ _ _), K6.alloc _, K7.alloc _, K9.alloc _, HV.alloc HV.size _⟩
        | exact ⟨rfl, _, rfl, ⟨by first | (simp; done) | (simp; omega), by go_simp, by go_simp⟩, (K6.far (by first | omega | (dsimp only; omega)) _).far (by first | omega | (dsimp only; omega)) _, (K7.far (by first | omega | (dsimp only; omega)) _).far (by first | omega | (dsimp only; omega)) _, (K9.far (by first | omega | (dsimp only; omega)) _).far (by first | omega | (dsimp only; omega)) _, (HV.setCell (by first | omega | (dsimp only; omega)) _).setCell (by first | omega | (dsimp only; omega)) _⟩
  case rest =>
  clear K6 K7 K9 HV
  obtain ⟨rfl, gq, rfl, K11, K6, K7, K9, HV⟩ := hcut
  generalize wc = vq at *
  have ya := K9.2.1
  have yb := K9.2.2
  have yc := K11.2.1
  have yd := K11.2.2
  go_wp2_with fail
  refine (AD.out _).mono ?_
  rintro e u2 ⟨rfl, hb⟩
  replace K6 := K6.below hb
  replace K7 := K7.below hb
  replace K9 := K9.below hb
  replace K11 := K11.below hb
  replace HV := HV.trans (hb.mono HV.size)
  clear hb
  clear ya yb yc yd
  replace K6 := K6.alloc (.cells #[.bool bG, .string tG] 37)
  replace K7 := K7.alloc (.cells #[.bool bG, .string tG] 37)
  replace K9 := K9.alloc (.cells #[.bool bG, .string tG] 37)
  replace K11 := K11.alloc (.cells #[.bool bG, .string tG] 37)
  have K13 := Lb.of (Bk.new u2 #[.bool bG, .string tG] 37)
  replace HV := HV.alloc HV.size (.cells #[.bool bG, .string tG] 37)
  go_upto_region 7 with fail
  generalize u2.alloc (.cells #[.bool bG, .string tG] 37) = vr at *
  go_cut [87] from 68 (fun sx wx => sx = .bool false ∧ Lb wx (u1.heap.size) bX tX ∧ Below w.heap.size w wx)
  case first =>
    go_region_held3 (fun w' => w'.cell? ⟨u2.heap.size, 0, none⟩ = some (.bool bG) ∧ w'.cell? ⟨u2.heap.size, 1, none⟩ = some (.string tG) ∧ Hid (Lb w' (u2.heap.size) bG tG ∧ Lb w' (u1.heap.size) bX tX ∧ Below w.heap.size w w')) (first | assumption | exact ⟨K13.2.1, K13.2.2, Lib.hid ⟨K13.drew, K6.drew, HV.drew⟩⟩) (first | (go_at_call 28; (refine (FG.out _).mono ?_); rintro e ff ⟨rfl, hb⟩; obtain ⟨_, _, hk⟩ := ‹_ ∧ _›; obtain ⟨k13, k6, hv⟩ := hk.out; have hSx : ff.cell? ⟨u2.heap.size, 0, none⟩ = some (.bool bG) ∧ ff.cell? ⟨u2.heap.size, 1, none⟩ = some (.string tG) ∧ Hid (Lb ff (u2.heap.size) bG tG ∧ Lb ff (u1.heap.size) bX tX ∧ Below w.heap.size w ff) := ⟨(k13.below hb).2.1, (k13.below hb).2.2, Lib.hid ⟨k13.below hb, k6.below hb, hv.trans (hb.mono hv.size)⟩⟩; clear hb hk k13 k6 hv))
    all_goals
      go_wp2_with fail
      go_meet
      obtain ⟨_, _, hk⟩ := ‹_ ∧ _›
      obtain ⟨_, k6, hv⟩ := hk.out
      exact ⟨rfl, k6, hv⟩
  case rest =>
  clear K6 K7 K9 K11 K13 HV
  obtain ⟨rfl, K6, HV⟩ := hcut
  rcases HC.out with ⟨hg, ha, hb0⟩ | ⟨hg, rfl, hr, d1, d2, hbc⟩
  · skip
    go_wp2_with fail
    refine (iawake_any _).mono ?_
    rintro e ua ⟨rfl, hb⟩
    replace HV := HV.trans (hb.mono HV.size)
    clear hb
    go_wp2
    go_ret
    exact ⟨rfl, HV⟩
  · have HD1 := Lib.hid d1
    have HD2 := Lib.hid d2
    clear d1 d2
    rcases hbc with hb0 | ⟨hb0, d3⟩
    case' inr => have HD3 := Lib.hid d3; clear d3
    all_goals
      go_wp2_with fail
      refine (HD1.out _).mono ?_
      rintro e ud ⟨rfl, hb⟩
      replace K6 := K6.below hb
      replace HV := HV.trans (hb.mono HV.size)
      clear hb
      go_wp2_with fail
      refine (HD2.out _).mono ?_
      rintro e ue ⟨rfl, hb⟩
      replace K6 := K6.below hb
      replace HV := HV.trans (hb.mono HV.size)
      clear hb
      go_wp2_with fail
      refine (iawake_any _).mono ?_
      rintro e ua ⟨rfl, hb⟩
      replace K6 := K6.below hb
      replace HV := HV.trans (hb.mono HV.size)
      clear hb
      have xa := K6.2.1
      have xb := K6.2.2
      go_wp2_with (go_at_call 52; refine (HD3.out _).mono ?_; rintro e w' ⟨rfl, rfl⟩)
      go_ret
      exact ⟨rfl, HV⟩

theorem ibezout_short (a b : ByteArray) (va vb : Bool) (w : World) (hs : a.size ≤ 9223372036854775807) (ht : b.size ≤ 9223372036854775807)
    (c1 : ∀ W, Calls Try.prog 53 #[.string a] W (Same W (.bool va))) (c2 : ∀ W, Calls Try.prog 53 #[.string b] W (Same W (.bool vb)))
    (h : va = false ∨ (va = true ∧ vb = false) ∨ (va = true ∧ vb = true ∧ 50 < a.size) ∨ (va = true ∧ vb = true ∧ a.size ≤ 50 ∧ 50 < b.size)) :
    Calls Try.prog 13 #[.string a, .string b] w (Made w (.bool true)) := by
  have V1 := Lib.hid c1
  have V2 := Lib.hid c2
  clear c1 c2
  have HV : Below w.heap.size w w := Below.refl _ _
  rcases h with rfl | ⟨rfl, rfl⟩ | ⟨rfl, rfl, h⟩ | ⟨rfl, rfl, h0, h⟩
  all_goals
    go_enter Try.func13, Try.ntmps13
    go_wp2_with (first
      | (go_at_call 53; (first | (with_reducible refine (V1.out _).mono ?_) | (with_reducible refine (V2.out _).mono ?_)); rintro e w' ⟨rfl, rfl⟩)
      | (go_at_call 21; refine (iawake_any _).mono ?_; rintro e ua ⟨rfl, hb⟩; replace HV := HV.trans (hb.mono HV.size); clear hb))
    go_ret
    exact ⟨rfl, HV⟩
theorem lt_top50 {n : Nat} (h : n < 256 ^ 50) : n < 256 ^ 60 := Nat.lt_of_lt_of_le h (Nat.pow_le_pow_right (by decide) (by decide))
theorem emp {n : Nat} (h : n = 0) : (bs n).toList.isEmpty = true := by subst h; rw [bs_isEmpty]; rfl
theorem nemp {n : Nat} (h : n ≠ 0) : (bs n).toList.isEmpty = false := by rw [bs_isEmpty]; simpa using h
set_option maxHeartbeats 1000000 in
theorem ibezout_main {a b : Nat} (ha : a < 256 ^ 50) (hb : b < 256 ^ 50) (w : World) : Calls Try.prog 13 #[.string (bs a), .string (bs b)] w (Made w (.bool true)) := by
  have ha6 := lt_top50 ha
  have hb6 := lt_top50 hb
  have haT := lt_top60 ha6
  have hbT := lt_top60 hb6
  have hs := bs_le.2 ha
  have ht := bs_le.2 hb
  have h0T : 0 < Top := by unfold Top; decide
  have h1T : zabs 1 < Top := top_big (by decide)
  by_cases h0 : b = 0
  · subst h0
    have z0 : zabs ((0 : Nat) : Int) < Top := h0T
    refine ibezout_core _ _ _ _ _ _ _ (bs a) (bs 0) (bs a) _ _ _ _ _ _ _ (bs (a / a)) (bs (0 / a)) (bs 0) w hs ht (fun W => valid_yes haT W) (fun W => valid_yes hbT W) (fun W => extended_zero haT W) (fun W => from_yes haT W) (fun W => imul_ok (x := (a : Int)) (y := 1) (by rw [zabs_nat]; exact haT) h1T (by rw [Int.mul_one, zabs_nat]; exact haT) W) (fun W => from_yes (n := 0) hbT W) (fun W => imul_ok (x := ((0 : Nat) : Int)) (y := 0) z0 z0 (by rw [Int.mul_zero]; exact z0) W) (fun W => ?_) (fun W => from_yes haT W) ?_
    · have := iadd_ok (x := (a : Int) * 1) (y := ((0 : Nat) : Int) * 0) (by rw [Int.mul_one, zabs_nat]; exact haT) (by rw [Int.mul_zero]; exact z0) (by rw [Int.mul_one, Int.mul_zero, Int.add_zero, zabs_nat]; exact haT) W
      rw [show (a : Int) * 1 + ((0 : Nat) : Int) * 0 = (a : Int) by simp] at this
      exact this
    · by_cases ha0 : a = 0
      · exact .inl ⟨emp ha0, emp ha0, emp rfl⟩
      · refine .inr ⟨nemp ha0, rfl, emp rfl, fun W => ?_, fun W => ?_, .inl (emp rfl)⟩
        · have := divmod_ok haT haT ha0 W
          rwa [Nat.mod_self] at this
        · have := divmod_ok (a := 0) h0T haT ha0 W
          rwa [Nat.zero_mod] at this
  · obtain ⟨hg, ga, gb, hm⟩ := gcd_parts (a := a) h0
    obtain ⟨sp, _⟩ := bez_spec b a
    have hE := ext_of h0 sp
    obtain ⟨X, Y, hE⟩ : ∃ X Y, IsExt a b X Y := ⟨_, _, hE⟩
    obtain ⟨e1, x0, x1⟩ := hE
    have hgb : Nat.gcd a b ≤ b := Nat.gcd_le_right _ (Nat.pos_of_ne_zero h0)
    have hgT : Nat.gcd a b < Top := by omega
    have hXb : zabs X ≤ b := by
      have : b / Nat.gcd a b ≤ b := Nat.div_le_self _ _
      unfold zabs
      omega
    have hXm : zabs X < b / Nat.gcd a b := by unfold zabs; omega
    have hT : 256 ^ 50 * 256 ^ 50 + 256 ^ 50 < Top := by unfold Top; decide
    have pX : zabs ((a : Int) * X) ≤ 256 ^ 50 * 256 ^ 50 := by
      rw [zabs_mul, zabs_nat]
      exact Nat.mul_le_mul (Nat.le_of_lt ha) (by omega)
    have pY : zabs ((b : Int) * Y) ≤ 256 ^ 50 * 256 ^ 50 + 256 ^ 50 := by
      have : (b : Int) * Y = (Nat.gcd a b : Nat) - (a : Int) * X := by omega
      rw [this]
      unfold zabs at pX ⊢
      omega
    have hY : zabs Y ≤ zabs ((b : Int) * Y) := by
      rw [zabs_mul, zabs_nat]
      exact Nat.le_mul_of_pos_left _ (Nat.pos_of_ne_zero h0)
    have hXn : zneg X = false := by unfold zneg; simp; omega
    refine ibezout_core _ _ _ _ _ _ _ (bs a) (bs b) (bs (Nat.gcd a b)) _ _ _ _ _ _ _ (bs (a / Nat.gcd a b)) (bs (b / Nat.gcd a b)) (bs 0) w hs ht (fun W => valid_yes haT W) (fun W => valid_yes hbT W) (fun W => extended_pos ha6 hb6 h0 ⟨e1, x0, x1⟩ W) (fun W => from_yes haT W) (fun W => imul_ok (x := (a : Int)) (y := X) (by rw [zabs_nat]; exact haT) (by omega) (by omega) W) (fun W => from_yes hbT W) (fun W => imul_ok (x := (b : Int)) (y := Y) (by rw [zabs_nat]; exact hbT) (by omega) (by omega) W) (fun W => ?_) (fun W => from_yes hgT W) (.inr ⟨nemp hg, hXn, emp rfl, fun W => ?_, fun W => ?_, .inr ⟨nemp h0, fun W => ?_⟩⟩)
    · have := iadd_ok (x := (a : Int) * X) (y := (b : Int) * Y) (by omega) (by omega) (by rw [e1, zabs_nat]; exact hgT) W
      rw [e1] at this
      exact this
    · have := divmod_ok haT hgT hg W
      rwa [Nat.mod_eq_zero_of_dvd (Nat.gcd_dvd_left a b)] at this
    · have := divmod_ok hbT hgT hg W
      rwa [Nat.mod_eq_zero_of_dvd (Nat.gcd_dvd_right a b)] at this
    · have := cmp_yes (a := zabs X) (b := b / Nat.gcd a b) (by omega) (Nat.lt_of_le_of_lt (Nat.div_le_self _ _) hbT) W
      rw [cmp_lt hXm] at this
      exact this
theorem law_ibezout (a b : ByteArray) (w : World) (hs : a.size ≤ 9223372036854775807) (ht : b.size ≤ 9223372036854775807) :
    Calls Try.prog 13 #[.string a, .string b] w (Made w (.bool true)) := by
  rcases h1 : validB a with _ | _
  · exact ibezout_short a b false (validB b) w hs ht (fun W => valid_no h1 W hs) (fun W => valid_any b W ht) (.inl rfl)
  have c1 : ∀ W, Calls Try.prog 53 #[.string a] W (Same W (.bool true)) := fun W => by have := valid_any a W hs; rwa [h1] at this
  rcases h2 : validB b with _ | _
  · exact ibezout_short a b true false w hs ht c1 (fun W => valid_no h2 W ht) (.inr (.inl ⟨rfl, rfl⟩))
  have c2 : ∀ W, Calls Try.prog 53 #[.string b] W (Same W (.bool true)) := fun W => by have := valid_any b W ht; rwa [h2] at this
  by_cases h3 : 50 < a.size
  · exact ibezout_short a b true true w hs ht c1 c2 (.inr (.inr (.inl ⟨rfl, rfl, h3⟩)))
  by_cases h4 : 50 < b.size
  · exact ibezout_short a b true true w hs ht c1 c2 (.inr (.inr (.inr ⟨rfl, rfl, by omega, h4⟩)))
  obtain ⟨x, hx, rfl⟩ := bs_of_valid h1
  obtain ⟨y, hy, rfl⟩ := bs_of_valid h2
  exact ibezout_main (bs_le.1 (by omega)) (bs_le.1 (by omega)) w

end Go.Proofs.Ytehpdpcpdfgnlaa
