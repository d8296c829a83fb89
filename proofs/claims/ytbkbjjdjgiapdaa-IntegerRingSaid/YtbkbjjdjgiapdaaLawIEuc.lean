/-
  dominolaw02.IntegerEuclid returns true: the walk.
-/
import Derived.Test.YtbkbjjdjgiapdaaIntT
import Derived.Test.YtbkbjjdjgiapdaaIntM
import Derived.Deep.Cut
import Derived.Deep.CutRange
namespace Go.Proofs.Ytbkbjjdjgiapdaa
open Go.RowKit Num

set_option maxHeartbeats 8000000 in
set_option maxRecDepth 100000 in
theorem ieuclid_core (p q bq bp bf bt : Bool) (s t tq tp tf tt r : ByteArray) (w : World) (hs : s.size ≤ 60) (ht : t.size ≤ 60) (he : t.toList.isEmpty = false)
    (cV1 : ∀ W, Calls Try.prog 25 #[.agg #[.bool p, .string s]] W (Made W (.bool true)))
    (cV2 : ∀ W, Calls Try.prog 25 #[.agg #[.bool q, .string t]] W (Made W (.bool true)))
    (cH0 : ∀ W, Calls Try.prog 40 #[.agg #[.bool p, .string s], .agg #[.bool q, .string t]] W (Made W (.tuple #[.agg #[.bool bq, .string tq], .string r, .int .i64 0])))
    (cH1 : ∀ W, Calls Try.prog 38 #[.agg #[.bool bq, .string tq], .agg #[.bool q, .string t]] W (Made W (.tuple #[.agg #[.bool bp, .string tp], .int .i64 0])))
    (cHF : ∀ W, Calls Try.prog 28 #[.string r] W (Made W (.agg #[.bool bf, .string tf])))
    (cHA : ∀ W, Calls Try.prog 34 #[.agg #[.bool bp, .string tp], .agg #[.bool bf, .string tf]] W (Made W (.tuple #[.agg #[.bool p, .string s], .int .i64 0])))
    (cHC : ∀ W, Calls Try.prog 52 #[.string r, .string t] W (Same W (.int .i64 (-1))))
    (cH2 : ∀ W, Calls Try.prog 34 #[.agg #[.bool p, .string s], .agg #[.bool q, .string t]] W (Made W (.tuple #[.agg #[.bool bt, .string tt], .int .i64 0])))
    (cH3 : ∀ W, Calls Try.prog 42 #[.agg #[.bool bt, .string tt], .string t] W (Made W (.tuple #[.string r, .int .i64 0])))
    (cH4 : ∀ W, Calls Try.prog 44 #[.agg #[.bool bp, .string tp], .agg #[.bool q, .string t]] W (Made W (.tuple #[.agg #[.bool bq, .string tq], .int .i64 0]))) :
    Calls Try.prog 12 #[.agg #[.bool p, .string s], .agg #[.bool q, .string t]] w (Made w (.bool true)) := by
  have V1 := Lib.hid cV1
  have V2 := Lib.hid cV2
  have H0 := Lib.hid cH0
  have H1 := Lib.hid cH1
  have HF := Lib.hid cHF
  have HA := Lib.hid cHA
  have HC := Lib.hid cHC
  have H2 := Lib.hid cH2
  have H3 := Lib.hid cH3
  have H4 := Lib.hid cH4
  clear cV1 cV2 cH0 cH1 cHF cHA cHC cH2 cH3 cH4
  have K0 := (Bk.new w #[.bool p, .string s] 37).alloc (.cells #[.bool q, .string t] 37)
  have K1 := Bk.new1 w (.cells #[.bool p, .string s] 37) #[.bool q, .string t] 37
  have HV : Below w.heap.size w ((w.alloc (.cells #[.bool p, .string s] 37)).alloc (.cells #[.bool q, .string t] 37)) := ((Below.refl w.heap.size w).alloc (Nat.le_refl _) (.cells #[.bool p, .string s] 37)).alloc (by simp) (.cells #[.bool q, .string t] 37)
  go_enter Try.func12, Try.ntmps12
  go_wp2_with fail
  refine (V1.out _).mono ?_
  rintro e u1 ⟨rfl, hb⟩
  replace K0 := K0.below hb
  replace K1 := K1.below hb
  replace HV := HV.trans (hb.mono HV.size)
  clear hb
  have a0 : u1.cell? ⟨w.heap.size, 0, none⟩ = some (.bool p) := K0.cell 0
  have a1 : u1.cell? ⟨w.heap.size, 1, none⟩ = some (.string s) := K0.cell 1
  have a2 : u1.cell? ⟨w.heap.size + 1, 0, none⟩ = some (.bool q) := K1.cell 0
  have a3 : u1.cell? ⟨w.heap.size + 1, 1, none⟩ = some (.string t) := K1.cell 1
  have l0 : w.heap.size < u1.heap.size := K0.lt
  have l1 : w.heap.size + 1 < u1.heap.size := K1.lt
  go_wp2_with fail
  refine (V2.out _).mono ?_
  rintro e u2 ⟨rfl, hb⟩
  replace K0 := K0.below hb
  replace K1 := K1.below hb
  replace HV := HV.trans (hb.mono HV.size)
  clear hb
  clear a0 a1 a2 a3 l0 l1
  have a0 : u2.cell? ⟨w.heap.size, 0, none⟩ = some (.bool p) := K0.cell 0
  have a1 : u2.cell? ⟨w.heap.size, 1, none⟩ = some (.string s) := K0.cell 1
  have a2 : u2.cell? ⟨w.heap.size + 1, 0, none⟩ = some (.bool q) := K1.cell 0
  have a3 : u2.cell? ⟨w.heap.size + 1, 1, none⟩ = some (.string t) := K1.cell 1
  have l0 : w.heap.size < u2.heap.size := K0.lt
  have l1 : w.heap.size + 1 < u2.heap.size := K1.lt
  go_wp2_with fail
  refine (H0.out _).mono ?_
  rintro e u3 ⟨rfl, hb⟩
  replace K0 := K0.below hb
  replace K1 := K1.below hb
  replace HV := HV.trans (hb.mono HV.size)
  clear hb
  clear a0 a1 a2 a3 l0 l1
  have a0 : u3.cell? ⟨w.heap.size, 0, none⟩ = some (.bool p) := K0.cell 0
  have a1 : u3.cell? ⟨w.heap.size, 1, none⟩ = some (.string s) := K0.cell 1
  have a2 : u3.cell? ⟨w.heap.size + 1, 0, none⟩ = some (.bool q) := K1.cell 0
  have a3 : u3.cell? ⟨w.heap.size + 1, 1, none⟩ = some (.string t) := K1.cell 1
  have l0 : w.heap.size < u3.heap.size := K0.lt
  have l1 : w.heap.size + 1 < u3.heap.size := K1.lt
  replace K0 := K0.alloc (.cells #[.bool bq, .string tq] 37)
  replace K1 := K1.alloc (.cells #[.bool bq, .string tq] 37)
  have K5 := Bk.new u3 #[.bool bq, .string tq] 37
  replace HV := HV.alloc HV.size (.cells #[.bool bq, .string tq] 37)
  go_wp2_with fail
  refine (H1.out _).mono ?_
  rintro e u4 ⟨rfl, hb⟩
  replace K0 := K0.below hb
  replace K1 := K1.below hb
  replace K5 := K5.below hb
  replace HV := HV.trans (hb.mono HV.size)
  clear hb
  clear a0 a1 a2 a3 l0 l1
  have a0 : u4.cell? ⟨w.heap.size, 0, none⟩ = some (.bool p) := K0.cell 0
  have a1 : u4.cell? ⟨w.heap.size, 1, none⟩ = some (.string s) := K0.cell 1
  have a2 : u4.cell? ⟨w.heap.size + 1, 0, none⟩ = some (.bool q) := K1.cell 0
  have a3 : u4.cell? ⟨w.heap.size + 1, 1, none⟩ = some (.string t) := K1.cell 1
  have l0 : w.heap.size < u4.heap.size := K0.lt
  have l1 : w.heap.size + 1 < u4.heap.size := K1.lt
  have x5a : u4.cell? ⟨u3.heap.size, 0, none⟩ = some (.bool bq) := K5.cell 0
  have x5b : u4.cell? ⟨u3.heap.size, 1, none⟩ = some (.string tq) := K5.cell 1
  have x5l : u3.heap.size < u4.heap.size := K5.lt
  replace K0 := K0.alloc (.cells #[.bool bp, .string tp] 37)
  replace K1 := K1.alloc (.cells #[.bool bp, .string tp] 37)
  replace K5 := K5.alloc (.cells #[.bool bp, .string tp] 37)
  have K8 := Bk.new u4 #[.bool bp, .string tp] 37
  replace HV := HV.alloc HV.size (.cells #[.bool bp, .string tp] 37)
  go_upto_region 5 with fail
  generalize u4.alloc (.cells #[.bool bp, .string tp] 37) = v1 at *
  clear a0 a1 a2 a3 l0 l1 x5a x5b x5l
  go_cut [10, 11] from 54 (fun s10 s11 wx => s11 = .int .i64 0 ∧ ∃ g10, s10 = .pointer (some ⟨g10, 0, none⟩) ∧ wx.cell? ⟨g10, 0, none⟩ = some (.bool p) ∧ wx.cell? ⟨g10, 1, none⟩ = some (.string s) ∧ Bk wx w.heap.size #[.bool p, .string s] 37 ∧ Bk wx (w.heap.size + 1) #[.bool q, .string t] 37 ∧ Bk wx u3.heap.size #[.bool bq, .string tq] 37 ∧ Bk wx u4.heap.size #[.bool bp, .string tp] 37 ∧ Below w.heap.size w wx)
  case first =>
    have x8a : v1.cell? ⟨u4.heap.size, 0, none⟩ = some (.bool bp) := K8.cell 0
    have x8b : v1.cell? ⟨u4.heap.size, 1, none⟩ = some (.string tp) := K8.cell 1
    have x8l : u4.heap.size < v1.heap.size := K8.lt
    have qK0 : _ < v1.heap.size := K0.lt
    have qK1 : _ < v1.heap.size := K1.lt
    have qK5 : _ < v1.heap.size := K5.lt
    have qK8 : _ < v1.heap.size := K8.lt
    replace K0 := K0.drew
    replace K1 := K1.drew
    replace K5 := K5.drew
    replace K8 := K8.drew
    have qdK0 : _ < v1.drew.heap.size := K0.lt
    have qdK1 : _ < v1.drew.heap.size := K1.lt
    have qdK5 : _ < v1.drew.heap.size := K5.lt
    have qdK8 : _ < v1.drew.heap.size := K8.lt
    replace HV := HV.drew
    go_region_with (first | (go_at_call 28; (refine (HF.out _).mono ?_); rintro e f1 ⟨rfl, hb⟩; (first | replace K0 := K0.below hb | replace K0 := K0.belowD hb | replace K0 := (K0.alloc _).below hb | replace K0 := (K0.alloc _).belowD hb); (first | replace K1 := K1.below hb | replace K1 := K1.belowD hb | replace K1 := (K1.alloc _).below hb | replace K1 := (K1.alloc _).belowD hb); (first | replace K5 := K5.below hb | replace K5 := K5.belowD hb | replace K5 := (K5.alloc _).below hb | replace K5 := (K5.alloc _).belowD hb); (first | replace K8 := K8.below hb | replace K8 := K8.belowD hb | replace K8 := (K8.alloc _).below hb | replace K8 := (K8.alloc _).belowD hb); (first | replace HV := HV.trans (hb.mono HV.size) | replace HV := (HV.alloc HV.size _).trans (hb.mono (HV.alloc HV.size _).size)); obtain ⟨hcf1, hff1⟩ := bcell hb; have hzf1 := hb.size; (try simp at hzf1); (try have hyf1 := Nat.lt_of_succ_le hzf1); clear hb; have f18a : f1.cell? ⟨u4.heap.size, 0, none⟩ = some (.bool bp) := K8.cell 0; have f18b : f1.cell? ⟨u4.heap.size, 1, none⟩ = some (.string tp) := K8.cell 1; have f18l : u4.heap.size < f1.heap.size := K8.lt; have f1r0 := K0.lt; have f1r1 := K1.lt; have f1r5 := K5.lt) | (go_at_call 34; (refine (HA.out _).mono ?_); rintro e f2 ⟨rfl, hb⟩; (first | replace K0 := K0.below hb | replace K0 := K0.belowD hb | replace K0 := (K0.alloc _).below hb | replace K0 := (K0.alloc _).belowD hb); (first | replace K1 := K1.below hb | replace K1 := K1.belowD hb | replace K1 := (K1.alloc _).below hb | replace K1 := (K1.alloc _).belowD hb); (first | replace K5 := K5.below hb | replace K5 := K5.belowD hb | replace K5 := (K5.alloc _).below hb | replace K5 := (K5.alloc _).belowD hb); (first | replace K8 := K8.below hb | replace K8 := K8.belowD hb | replace K8 := (K8.alloc _).below hb | replace K8 := (K8.alloc _).belowD hb); (first | replace HV := HV.trans (hb.mono HV.size) | replace HV := (HV.alloc HV.size _).trans (hb.mono (HV.alloc HV.size _).size)); obtain ⟨hcf2, hff2⟩ := bcell hb; have hzf2 := hb.size; (try simp at hzf2); (try have hyf2 := Nat.lt_of_succ_le hzf2); clear hb; have f28a : f2.cell? ⟨u4.heap.size, 0, none⟩ = some (.bool bp) := K8.cell 0; have f28b : f2.cell? ⟨u4.heap.size, 1, none⟩ = some (.string tp) := K8.cell 1; have f28l : u4.heap.size < f2.heap.size := K8.lt; have f2r0 := K0.lt; have f2r1 := K1.lt; have f2r5 := K5.lt; (try have hw := Nat.lt_of_lt_of_le hyf1 hzf2)))
    all_goals
      go_wp2_with fail
      go_meet
      first
        | exact ⟨rfl, _, rfl, by go_simp, by go_simp, K0.alloc _, K1.alloc _, K5.alloc _, K8.alloc _, HV.alloc HV.size _⟩
        | exact ⟨rfl, _, rfl, by go_simp, by go_simp, (K0.far (by first | omega | (dsimp only; omega)) _).far (by first | omega | (dsimp only; omega)) _, (K1.far (by first | omega | (dsimp only; omega)) _).far (by first | omega | (dsimp only; omega)) _, (K5.far (by first | omega | (dsimp only; omega)) _).far (by first | omega | (dsimp only; omega)) _, (K8.far (by first | omega | (dsimp only; omega)) _).far (by first | omega | (dsimp only; omega)) _, (HV.setCell (by first | omega | (dsimp only; omega)) _).setCell (by first | omega | (dsimp only; omega)) _⟩
  case rest =>
  clear K0 K1 K5 K8 HV
  obtain ⟨rfl, g10, rfl, y0, y1, K0, K1, K5, K8, HV⟩ := hcut
  have a0 : wc.cell? ⟨w.heap.size, 0, none⟩ = some (.bool p) := K0.cell 0
  have a1 : wc.cell? ⟨w.heap.size, 1, none⟩ = some (.string s) := K0.cell 1
  have a2 : wc.cell? ⟨w.heap.size + 1, 0, none⟩ = some (.bool q) := K1.cell 0
  have a3 : wc.cell? ⟨w.heap.size + 1, 1, none⟩ = some (.string t) := K1.cell 1
  have l0 : w.heap.size < wc.heap.size := K0.lt
  have l1 : w.heap.size + 1 < wc.heap.size := K1.lt
  go_wp2_with fail
  refine (HC.out _).mono ?_
  rintro e w' ⟨rfl, rfl⟩
  clear y0 y1
  go_wp2_with fail
  refine (H2.out _).mono ?_
  rintro e u5 ⟨rfl, hb⟩
  replace K0 := K0.below hb
  replace K1 := K1.below hb
  replace K5 := K5.below hb
  replace K8 := K8.below hb
  replace HV := HV.trans (hb.mono HV.size)
  clear hb
  clear a0 a1 a2 a3 l0 l1
  have a0 : u5.cell? ⟨w.heap.size, 0, none⟩ = some (.bool p) := K0.cell 0
  have a1 : u5.cell? ⟨w.heap.size, 1, none⟩ = some (.string s) := K0.cell 1
  have a2 : u5.cell? ⟨w.heap.size + 1, 0, none⟩ = some (.bool q) := K1.cell 0
  have a3 : u5.cell? ⟨w.heap.size + 1, 1, none⟩ = some (.string t) := K1.cell 1
  have l0 : w.heap.size < u5.heap.size := K0.lt
  have l1 : w.heap.size + 1 < u5.heap.size := K1.lt
  replace K0 := K0.alloc (.cells #[.bool bt, .string tt] 37)
  replace K1 := K1.alloc (.cells #[.bool bt, .string tt] 37)
  replace K5 := K5.alloc (.cells #[.bool bt, .string tt] 37)
  replace K8 := K8.alloc (.cells #[.bool bt, .string tt] 37)
  have K12 := Bk.new u5 #[.bool bt, .string tt] 37
  replace HV := HV.alloc HV.size (.cells #[.bool bt, .string tt] 37)
  go_wp2_with fail
  refine (H3.out _).mono ?_
  rintro e u6 ⟨rfl, hb⟩
  replace K0 := K0.below hb
  replace K1 := K1.below hb
  replace K5 := K5.below hb
  replace K8 := K8.below hb
  replace K12 := K12.below hb
  replace HV := HV.trans (hb.mono HV.size)
  clear hb
  clear a0 a1 a2 a3 l0 l1
  have a0 : u6.cell? ⟨w.heap.size, 0, none⟩ = some (.bool p) := K0.cell 0
  have a1 : u6.cell? ⟨w.heap.size, 1, none⟩ = some (.string s) := K0.cell 1
  have a2 : u6.cell? ⟨w.heap.size + 1, 0, none⟩ = some (.bool q) := K1.cell 0
  have a3 : u6.cell? ⟨w.heap.size + 1, 1, none⟩ = some (.string t) := K1.cell 1
  have l0 : w.heap.size < u6.heap.size := K0.lt
  have l1 : w.heap.size + 1 < u6.heap.size := K1.lt
  have x8a : u6.cell? ⟨u4.heap.size, 0, none⟩ = some (.bool bp) := K8.cell 0
  have x8b : u6.cell? ⟨u4.heap.size, 1, none⟩ = some (.string tp) := K8.cell 1
  have x8l : u4.heap.size < u6.heap.size := K8.lt
  go_wp2_with fail
  refine (H4.out _).mono ?_
  rintro e u7 ⟨rfl, hb⟩
  replace K0 := K0.below hb
  replace K1 := K1.below hb
  replace K5 := K5.below hb
  replace K8 := K8.below hb
  replace K12 := K12.below hb
  replace HV := HV.trans (hb.mono HV.size)
  clear hb
  clear a0 a1 a2 a3 l0 l1
  have a0 : u7.cell? ⟨w.heap.size, 0, none⟩ = some (.bool p) := K0.cell 0
  have a1 : u7.cell? ⟨w.heap.size, 1, none⟩ = some (.string s) := K0.cell 1
  have a2 : u7.cell? ⟨w.heap.size + 1, 0, none⟩ = some (.bool q) := K1.cell 0
  have a3 : u7.cell? ⟨w.heap.size + 1, 1, none⟩ = some (.string t) := K1.cell 1
  have l0 : w.heap.size < u7.heap.size := K0.lt
  have l1 : w.heap.size + 1 < u7.heap.size := K1.lt
  replace K0 := K0.alloc (.cells #[.bool bq, .string tq] 37)
  replace K1 := K1.alloc (.cells #[.bool bq, .string tq] 37)
  replace K5 := K5.alloc (.cells #[.bool bq, .string tq] 37)
  replace K8 := K8.alloc (.cells #[.bool bq, .string tq] 37)
  replace K12 := K12.alloc (.cells #[.bool bq, .string tq] 37)
  have K14 := Bk.new u7 #[.bool bq, .string tq] 37
  replace HV := HV.alloc HV.size (.cells #[.bool bq, .string tq] 37)
  clear x8a x8b x8l a0 a1 a2 a3 l0 l1
  go_wp2_with fail
  refine (iawake_any _).mono ?_
  rintro e ua ⟨rfl, hb⟩
  replace K0 := K0.below hb
  replace K1 := K1.below hb
  replace K5 := K5.below hb
  replace K8 := K8.below hb
  replace K12 := K12.below hb
  replace K14 := K14.below hb
  replace HV := HV.trans (hb.mono HV.size)
  clear hb
  have x5a : ua.cell? ⟨u3.heap.size, 0, none⟩ = some (.bool bq) := K5.cell 0
  have x5b : ua.cell? ⟨u3.heap.size, 1, none⟩ = some (.string tq) := K5.cell 1
  have x5l : u3.heap.size < ua.heap.size := K5.lt
  have x14a : ua.cell? ⟨u7.heap.size, 0, none⟩ = some (.bool bq) := K14.cell 0
  have x14b : ua.cell? ⟨u7.heap.size, 1, none⟩ = some (.string tq) := K14.cell 1
  have x14l : u7.heap.size < ua.heap.size := K14.lt
  go_wp2
  go_ret
  exact ⟨rfl, HV⟩

theorem ivalid_true {p : Bool} {s : ByteArray} (h : vI p s = true) (w : World) (hs : s.size ≤ 9223372036854775807) : Calls Try.prog 25 #[.agg #[.bool p, .string s]] w (Made w (.bool true)) := by
  have := ivalid_core p (validB s) (s.toList.isEmpty) s w hs rfl rfl
  unfold vI at h
  rw [h] at this
  exact this
theorem emod_abs (z y : Int) : z % ((zabs y : Nat) : Int) = z % y := by
  unfold zabs
  by_cases h : y < 0
  · rw [show ((y.natAbs : Nat) : Int) = -y by omega, Int.emod_neg]
  · rw [show ((y.natAbs : Nat) : Int) = y by omega]

set_option maxHeartbeats 1000000 in
set_option maxRecDepth 100000 in
theorem ieuclid_no1 (p q : Bool) (s t : ByteArray) (w : World) (hs : s.size ≤ 9223372036854775807) (ht : t.size ≤ 9223372036854775807) (h : vI p s = false) :
    Calls Try.prog 12 #[.agg #[.bool p, .string s], .agg #[.bool q, .string t]] w (Made w (.bool true)) := by
  have _ := hs
  have _ := ht
  have V1 := Lib.hid (fun W => ivalid_no h W hs)
  clear h
  have K0 := (Bk.new w #[.bool p, .string s] 37).alloc (.cells #[.bool q, .string t] 37)
  have K1 := Bk.new1 w (.cells #[.bool p, .string s] 37) #[.bool q, .string t] 37
  have HV : Below w.heap.size w ((w.alloc (.cells #[.bool p, .string s] 37)).alloc (.cells #[.bool q, .string t] 37)) := ((Below.refl w.heap.size w).alloc (Nat.le_refl _) (.cells #[.bool p, .string s] 37)).alloc (by simp) (.cells #[.bool q, .string t] 37)
  go_enter Try.func12, Try.ntmps12
  go_wp2_with fail
  refine (V1.out _).mono ?_
  rintro e u1 ⟨rfl, hb⟩
  replace K0 := K0.below hb
  replace K1 := K1.below hb
  replace HV := HV.trans (hb.mono HV.size)
  clear hb
  have a0 : u1.cell? ⟨w.heap.size, 0, none⟩ = some (.bool p) := K0.cell 0
  have a1 : u1.cell? ⟨w.heap.size, 1, none⟩ = some (.string s) := K0.cell 1
  have a2 : u1.cell? ⟨w.heap.size + 1, 0, none⟩ = some (.bool q) := K1.cell 0
  have a3 : u1.cell? ⟨w.heap.size + 1, 1, none⟩ = some (.string t) := K1.cell 1
  have l0 : w.heap.size < u1.heap.size := K0.lt
  have l1 : w.heap.size + 1 < u1.heap.size := K1.lt
  go_wp2_with fail
  refine (iawake_any _).mono ?_
  rintro e ua ⟨rfl, hb⟩
  replace HV := HV.trans (hb.mono HV.size)
  go_wp2
  go_ret
  exact ⟨rfl, HV⟩

set_option maxHeartbeats 1000000 in
set_option maxRecDepth 100000 in
theorem ieuclid_no2 (p q : Bool) (s t : ByteArray) (w : World) (hs : s.size ≤ 9223372036854775807) (ht : t.size ≤ 9223372036854775807) (h1 : vI p s = true) (h2 : vI q t = false) :
    Calls Try.prog 12 #[.agg #[.bool p, .string s], .agg #[.bool q, .string t]] w (Made w (.bool true)) := by
  have _ := hs
  have _ := ht
  have V1 : Hid (∀ W, Calls Try.prog 25 #[.agg #[.bool p, .string s]] W (Made W (.bool true))) := Lib.hid (fun W => ivalid_true h1 W hs)
  have V2 := Lib.hid (fun W => ivalid_no h2 W ht)
  clear h1 h2
  have K0 := (Bk.new w #[.bool p, .string s] 37).alloc (.cells #[.bool q, .string t] 37)
  have K1 := Bk.new1 w (.cells #[.bool p, .string s] 37) #[.bool q, .string t] 37
  have HV : Below w.heap.size w ((w.alloc (.cells #[.bool p, .string s] 37)).alloc (.cells #[.bool q, .string t] 37)) := ((Below.refl w.heap.size w).alloc (Nat.le_refl _) (.cells #[.bool p, .string s] 37)).alloc (by simp) (.cells #[.bool q, .string t] 37)
  go_enter Try.func12, Try.ntmps12
  go_wp2_with fail
  refine (V1.out _).mono ?_
  rintro e u1 ⟨rfl, hb⟩
  replace K0 := K0.below hb
  replace K1 := K1.below hb
  replace HV := HV.trans (hb.mono HV.size)
  clear hb
  have a0 : u1.cell? ⟨w.heap.size, 0, none⟩ = some (.bool p) := K0.cell 0
  have a1 : u1.cell? ⟨w.heap.size, 1, none⟩ = some (.string s) := K0.cell 1
  have a2 : u1.cell? ⟨w.heap.size + 1, 0, none⟩ = some (.bool q) := K1.cell 0
  have a3 : u1.cell? ⟨w.heap.size + 1, 1, none⟩ = some (.string t) := K1.cell 1
  have l0 : w.heap.size < u1.heap.size := K0.lt
  have l1 : w.heap.size + 1 < u1.heap.size := K1.lt
  go_wp2_with fail
  refine (V2.out _).mono ?_
  rintro e u2 ⟨rfl, hb⟩
  replace K0 := K0.below hb
  replace K1 := K1.below hb
  replace HV := HV.trans (hb.mono HV.size)
  clear hb
  clear a0 a1 a2 a3 l0 l1
  have a0 : u2.cell? ⟨w.heap.size, 0, none⟩ = some (.bool p) := K0.cell 0
  have a1 : u2.cell? ⟨w.heap.size, 1, none⟩ = some (.string s) := K0.cell 1
  have a2 : u2.cell? ⟨w.heap.size + 1, 0, none⟩ = some (.bool q) := K1.cell 0
  have a3 : u2.cell? ⟨w.heap.size + 1, 1, none⟩ = some (.string t) := K1.cell 1
  have l0 : w.heap.size < u2.heap.size := K0.lt
  have l1 : w.heap.size + 1 < u2.heap.size := K1.lt
  go_wp2_with fail
  refine (iawake_any _).mono ?_
  rintro e ua ⟨rfl, hb⟩
  replace HV := HV.trans (hb.mono HV.size)
  go_wp2
  go_ret
  exact ⟨rfl, HV⟩

set_option maxHeartbeats 1000000 in
set_option maxRecDepth 100000 in
theorem ieuclid_big1 (p q : Bool) (s t : ByteArray) (w : World) (hs : s.size ≤ 9223372036854775807) (ht : t.size ≤ 9223372036854775807) (h1 : vI p s = true) (h2 : vI q t = true) (h : 60 < s.size) :
    Calls Try.prog 12 #[.agg #[.bool p, .string s], .agg #[.bool q, .string t]] w (Made w (.bool true)) := by
  have _ := hs
  have _ := ht
  have V1 : Hid (∀ W, Calls Try.prog 25 #[.agg #[.bool p, .string s]] W (Made W (.bool true))) := Lib.hid (fun W => ivalid_true h1 W hs)
  have V2 : Hid (∀ W, Calls Try.prog 25 #[.agg #[.bool q, .string t]] W (Made W (.bool true))) := Lib.hid (fun W => ivalid_true h2 W ht)
  clear h1 h2
  have K0 := (Bk.new w #[.bool p, .string s] 37).alloc (.cells #[.bool q, .string t] 37)
  have K1 := Bk.new1 w (.cells #[.bool p, .string s] 37) #[.bool q, .string t] 37
  have HV : Below w.heap.size w ((w.alloc (.cells #[.bool p, .string s] 37)).alloc (.cells #[.bool q, .string t] 37)) := ((Below.refl w.heap.size w).alloc (Nat.le_refl _) (.cells #[.bool p, .string s] 37)).alloc (by simp) (.cells #[.bool q, .string t] 37)
  go_enter Try.func12, Try.ntmps12
  go_wp2_with fail
  refine (V1.out _).mono ?_
  rintro e u1 ⟨rfl, hb⟩
  replace K0 := K0.below hb
  replace K1 := K1.below hb
  replace HV := HV.trans (hb.mono HV.size)
  clear hb
  have a0 : u1.cell? ⟨w.heap.size, 0, none⟩ = some (.bool p) := K0.cell 0
  have a1 : u1.cell? ⟨w.heap.size, 1, none⟩ = some (.string s) := K0.cell 1
  have a2 : u1.cell? ⟨w.heap.size + 1, 0, none⟩ = some (.bool q) := K1.cell 0
  have a3 : u1.cell? ⟨w.heap.size + 1, 1, none⟩ = some (.string t) := K1.cell 1
  have l0 : w.heap.size < u1.heap.size := K0.lt
  have l1 : w.heap.size + 1 < u1.heap.size := K1.lt
  go_wp2_with fail
  refine (V2.out _).mono ?_
  rintro e u2 ⟨rfl, hb⟩
  replace K0 := K0.below hb
  replace K1 := K1.below hb
  replace HV := HV.trans (hb.mono HV.size)
  clear hb
  clear a0 a1 a2 a3 l0 l1
  have a0 : u2.cell? ⟨w.heap.size, 0, none⟩ = some (.bool p) := K0.cell 0
  have a1 : u2.cell? ⟨w.heap.size, 1, none⟩ = some (.string s) := K0.cell 1
  have a2 : u2.cell? ⟨w.heap.size + 1, 0, none⟩ = some (.bool q) := K1.cell 0
  have a3 : u2.cell? ⟨w.heap.size + 1, 1, none⟩ = some (.string t) := K1.cell 1
  have l0 : w.heap.size < u2.heap.size := K0.lt
  have l1 : w.heap.size + 1 < u2.heap.size := K1.lt
  go_wp2_with fail
  refine (iawake_any _).mono ?_
  rintro e ua ⟨rfl, hb⟩
  replace HV := HV.trans (hb.mono HV.size)
  go_wp2
  go_ret
  exact ⟨rfl, HV⟩

set_option maxHeartbeats 1000000 in
set_option maxRecDepth 100000 in
theorem ieuclid_big2 (p q : Bool) (s t : ByteArray) (w : World) (hs : s.size ≤ 9223372036854775807) (ht : t.size ≤ 9223372036854775807) (h1 : vI p s = true) (h2 : vI q t = true) (h3 : s.size ≤ 60) (h : 60 < t.size) :
    Calls Try.prog 12 #[.agg #[.bool p, .string s], .agg #[.bool q, .string t]] w (Made w (.bool true)) := by
  have _ := hs
  have _ := ht
  have V1 : Hid (∀ W, Calls Try.prog 25 #[.agg #[.bool p, .string s]] W (Made W (.bool true))) := Lib.hid (fun W => ivalid_true h1 W hs)
  have V2 : Hid (∀ W, Calls Try.prog 25 #[.agg #[.bool q, .string t]] W (Made W (.bool true))) := Lib.hid (fun W => ivalid_true h2 W ht)
  clear h1 h2
  have K0 := (Bk.new w #[.bool p, .string s] 37).alloc (.cells #[.bool q, .string t] 37)
  have K1 := Bk.new1 w (.cells #[.bool p, .string s] 37) #[.bool q, .string t] 37
  have HV : Below w.heap.size w ((w.alloc (.cells #[.bool p, .string s] 37)).alloc (.cells #[.bool q, .string t] 37)) := ((Below.refl w.heap.size w).alloc (Nat.le_refl _) (.cells #[.bool p, .string s] 37)).alloc (by simp) (.cells #[.bool q, .string t] 37)
  go_enter Try.func12, Try.ntmps12
  go_wp2_with fail
  refine (V1.out _).mono ?_
  rintro e u1 ⟨rfl, hb⟩
  replace K0 := K0.below hb
  replace K1 := K1.below hb
  replace HV := HV.trans (hb.mono HV.size)
  clear hb
  have a0 : u1.cell? ⟨w.heap.size, 0, none⟩ = some (.bool p) := K0.cell 0
  have a1 : u1.cell? ⟨w.heap.size, 1, none⟩ = some (.string s) := K0.cell 1
  have a2 : u1.cell? ⟨w.heap.size + 1, 0, none⟩ = some (.bool q) := K1.cell 0
  have a3 : u1.cell? ⟨w.heap.size + 1, 1, none⟩ = some (.string t) := K1.cell 1
  have l0 : w.heap.size < u1.heap.size := K0.lt
  have l1 : w.heap.size + 1 < u1.heap.size := K1.lt
  go_wp2_with fail
  refine (V2.out _).mono ?_
  rintro e u2 ⟨rfl, hb⟩
  replace K0 := K0.below hb
  replace K1 := K1.below hb
  replace HV := HV.trans (hb.mono HV.size)
  clear hb
  clear a0 a1 a2 a3 l0 l1
  have a0 : u2.cell? ⟨w.heap.size, 0, none⟩ = some (.bool p) := K0.cell 0
  have a1 : u2.cell? ⟨w.heap.size, 1, none⟩ = some (.string s) := K0.cell 1
  have a2 : u2.cell? ⟨w.heap.size + 1, 0, none⟩ = some (.bool q) := K1.cell 0
  have a3 : u2.cell? ⟨w.heap.size + 1, 1, none⟩ = some (.string t) := K1.cell 1
  have l0 : w.heap.size < u2.heap.size := K0.lt
  have l1 : w.heap.size + 1 < u2.heap.size := K1.lt
  go_wp2_with fail
  refine (iawake_any _).mono ?_
  rintro e ua ⟨rfl, hb⟩
  replace HV := HV.trans (hb.mono HV.size)
  go_wp2
  go_ret
  exact ⟨rfl, HV⟩

set_option maxHeartbeats 1000000 in
set_option maxRecDepth 100000 in
theorem ieuclid_zero (p q : Bool) (s t : ByteArray) (w : World) (hs : s.size ≤ 9223372036854775807) (ht : t.size ≤ 9223372036854775807) (h1 : vI p s = true) (h2 : vI q t = true) (h3 : s.size ≤ 60) (h4 : t.size ≤ 60) (h : t.toList.isEmpty = true) :
    Calls Try.prog 12 #[.agg #[.bool p, .string s], .agg #[.bool q, .string t]] w (Made w (.bool true)) := by
  have _ := hs
  have _ := ht
  have V1 : Hid (∀ W, Calls Try.prog 25 #[.agg #[.bool p, .string s]] W (Made W (.bool true))) := Lib.hid (fun W => ivalid_true h1 W hs)
  have V2 : Hid (∀ W, Calls Try.prog 25 #[.agg #[.bool q, .string t]] W (Made W (.bool true))) := Lib.hid (fun W => ivalid_true h2 W ht)
  clear h1 h2
  have K0 := (Bk.new w #[.bool p, .string s] 37).alloc (.cells #[.bool q, .string t] 37)
  have K1 := Bk.new1 w (.cells #[.bool p, .string s] 37) #[.bool q, .string t] 37
  have HV : Below w.heap.size w ((w.alloc (.cells #[.bool p, .string s] 37)).alloc (.cells #[.bool q, .string t] 37)) := ((Below.refl w.heap.size w).alloc (Nat.le_refl _) (.cells #[.bool p, .string s] 37)).alloc (by simp) (.cells #[.bool q, .string t] 37)
  go_enter Try.func12, Try.ntmps12
  go_wp2_with fail
  refine (V1.out _).mono ?_
  rintro e u1 ⟨rfl, hb⟩
  replace K0 := K0.below hb
  replace K1 := K1.below hb
  replace HV := HV.trans (hb.mono HV.size)
  clear hb
  have a0 : u1.cell? ⟨w.heap.size, 0, none⟩ = some (.bool p) := K0.cell 0
  have a1 : u1.cell? ⟨w.heap.size, 1, none⟩ = some (.string s) := K0.cell 1
  have a2 : u1.cell? ⟨w.heap.size + 1, 0, none⟩ = some (.bool q) := K1.cell 0
  have a3 : u1.cell? ⟨w.heap.size + 1, 1, none⟩ = some (.string t) := K1.cell 1
  have l0 : w.heap.size < u1.heap.size := K0.lt
  have l1 : w.heap.size + 1 < u1.heap.size := K1.lt
  go_wp2_with fail
  refine (V2.out _).mono ?_
  rintro e u2 ⟨rfl, hb⟩
  replace K0 := K0.below hb
  replace K1 := K1.below hb
  replace HV := HV.trans (hb.mono HV.size)
  clear hb
  clear a0 a1 a2 a3 l0 l1
  have a0 : u2.cell? ⟨w.heap.size, 0, none⟩ = some (.bool p) := K0.cell 0
  have a1 : u2.cell? ⟨w.heap.size, 1, none⟩ = some (.string s) := K0.cell 1
  have a2 : u2.cell? ⟨w.heap.size + 1, 0, none⟩ = some (.bool q) := K1.cell 0
  have a3 : u2.cell? ⟨w.heap.size + 1, 1, none⟩ = some (.string t) := K1.cell 1
  have l0 : w.heap.size < u2.heap.size := K0.lt
  have l1 : w.heap.size + 1 < u2.heap.size := K1.lt
  go_wp2_with fail
  refine (iawake_any _).mono ?_
  rintro e ua ⟨rfl, hb⟩
  replace HV := HV.trans (hb.mono HV.size)
  go_wp2
  go_ret
  exact ⟨rfl, HV⟩
theorem ieuclid_main {x y : Int} (hx : zabs x < 256 ^ 60) (hy : zabs y < 256 ^ 60) (h0 : zabs y ≠ 0) (w : World) : Calls Try.prog 12 #[(.agg #[.bool (zneg x), .string (bs (zabs x))]), (.agg #[.bool (zneg y), .string (bs (zabs y))])] w (Made w (.bool true)) := by
  have hxT := lt_top60 hx
  have hyT := lt_top60 hy
  have hy0 : y ≠ 0 := fun e => h0 (zabs_zero.2 e)
  have hT : 256 ^ 60 + 256 ^ 60 + 256 ^ 60 < Top := by unfold Top; decide
  have e1 := Int.mul_ediv_add_emod x y
  have r0 := Int.emod_nonneg x hy0
  have r1 := Int.emod_lt x hy0
  have hR : ((zabs (x % y) : Nat) : Int) = x % y := by unfold zabs; omega
  have hRl : zabs (x % y) < zabs y := by unfold zabs; omega
  have hq : zabs (x / y) ≤ zabs x := Int.natAbs_ediv_le_natAbs _ _
  have hc := Int.mul_comm y (x / y)
  have hp : zabs (x / y * y) ≤ zabs x + zabs y := by unfold zabs; omega
  have hs1 := bs_le.2 hx
  have ht1 := bs_le.2 hy
  have hsum : zabs (x + y) ≤ zabs x + zabs y := Int.natAbs_add_le x y
  refine ieuclid_core _ _ (zneg (x / y)) (zneg (x / y * y)) _ _ _ _ (bs (zabs (x / y))) (bs (zabs (x / y * y))) _ _ (bs (zabs (x % y))) w hs1 ht1 (by rw [bs_isEmpty]; simpa using h0)
    (fun W => ivalid_yes hxT W) (fun W => ivalid_yes hyT W) (fun W => idivmod_ok hxT hyT h0 W) (fun W => imul_ok (by omega) hyT (by omega) W) (fun W => from_yes (n := zabs (x % y)) (by omega) W) (fun W => ?_) (fun W => ?_) (fun W => iadd_ok hxT hyT (by omega) W) (fun W => ?_) (fun W => idivide_ok W (fun W => ?_))
  · have := iadd_ok (x := x / y * y) (y := ((zabs (x % y) : Nat) : Int)) (by omega) (by rw [zabs_nat]; omega) (by rw [hR, show x / y * y + x % y = x by omega]; exact hxT) W
    rw [show x / y * y + ((zabs (x % y) : Nat) : Int) = x by rw [hR]; omega] at this
    exact this
  · have := cmp_yes (a := zabs (x % y)) (b := zabs y) (by omega) hyT W
    rw [cmp_lt hRl] at this
    exact this
  · have := imod_ok (x := x + y) (m := zabs y) (by omega) hyT h0 W
    rw [emod_abs, show (x + y) % y = x % y by have := Int.add_mul_emod_self_right x 1 y; rwa [Int.one_mul] at this] at this
    exact this
  · have := idivmod_ok (x := x / y * y) (y := y) (by omega) hyT h0 W
    rw [Int.mul_ediv_cancel _ hy0, Int.mul_emod_left] at this
    exact this
theorem law_ieuclid (p q : Bool) (s t : ByteArray) (w : World) (hs : s.size ≤ 9223372036854775807) (ht : t.size ≤ 9223372036854775807) :
    Calls Try.prog 12 #[.agg #[.bool p, .string s], .agg #[.bool q, .string t]] w (Made w (.bool true)) := by
  rcases h1 : vI p s with _ | _
  · exact ieuclid_no1 p q s t w hs ht h1
  rcases h2 : vI q t with _ | _
  · exact ieuclid_no2 p q s t w hs ht h1 h2
  by_cases h3 : 60 < s.size
  · exact ieuclid_big1 p q s t w hs ht h1 h2 h3
  by_cases h4 : 60 < t.size
  · exact ieuclid_big2 p q s t w hs ht h1 h2 (by omega) h4
  rcases h5 : t.toList.isEmpty with _ | _
  · obtain ⟨x, hx, rfl, rfl⟩ := vI_of h1
    obtain ⟨y, hy, rfl, rfl⟩ := vI_of h2
    rw [bs_isEmpty] at h5
    exact ieuclid_main (bs_le.1 (by omega)) (bs_le.1 (by omega)) (by simpa using h5) w
  · exact ieuclid_zero p q s t w hs ht h1 h2 (by omega) (by omega) h5

end Go.Proofs.Ytbkbjjdjgiapdaa
