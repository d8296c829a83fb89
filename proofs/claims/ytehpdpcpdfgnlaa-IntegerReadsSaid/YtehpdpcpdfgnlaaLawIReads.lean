/-
  dominolaw02.IntegerReads returns true: the walk.
-/
import Derived.Test.YtehpdpcpdfgnlaaIntT
import Derived.Test.YtehpdpcpdfgnlaaIntV
import Derived.Deep.Cut
import Derived.Deep.CutRange
import Derived.Deep.RegionHeld3
namespace Go.Proofs.Ytehpdpcpdfgnlaa
open Go.RowKit Num

set_option maxHeartbeats 400000 in
set_option maxRecDepth 100000 in
theorem neg_no {p : Bool} {s : ByteArray} (h : vI p s = false) (hs : s.size ≤ 9223372036854775807) (w : World) : Calls Try.prog 30 #[.agg #[.bool p, .string s]] w (Made w (.agg #[.bool (zneg 0), .string (bs (zabs 0))])) := by
  have V1 := Lib.hid (fun W => ivalid_no h W hs)
  rw [iv_zero]
  clear h
  go_enter Try.func30, Try.ntmps30
  go_wp2_with fail
  refine (V1.out _).mono ?_
  rintro e w1 ⟨rfl, hb⟩
  have HB := hb
  clear hb
  obtain ⟨hc, hf⟩ := bcell HB
  have hz : w.heap.size + 1 < w1.heap.size := by have := HB.size; simp at this; omega
  have hB := (((Below.refl w.heap.size w).alloc (Nat.le_refl _) (.cells #[.bool p, .string s] 37)).alloc (by simp) (.cells #[.bool false, .string ⟨#[]⟩] 37)).trans (HB.mono (by simp; omega))
  go_wp2
  exact bodyPost_ret (v := .agg #[.bool false, .string ⟨#[]⟩]) (by simp [results, Try.results30, go_sem, hc]) rfl ⟨rfl, (hB.setCell (by simp) _).setCell (by simp) _⟩

set_option maxHeartbeats 400000 in
set_option maxRecDepth 100000 in
theorem rneg_no {p : Bool} {s : ByteArray} (h : vI p s = false) (hs : s.size ≤ 9223372036854775807) (w : World) : Calls Try.prog 31 #[.agg #[.bool p, .string s]] w (Made w (.agg #[.bool (zneg 0), .string (bs (zabs 0))])) := by
  have V1 := Lib.hid (fun W => rivalid_no h W hs)
  rw [iv_zero]
  clear h
  go_enter Try.func31, Try.ntmps31
  go_wp2_with fail
  refine (V1.out _).mono ?_
  rintro e w1 ⟨rfl, hb⟩
  have HB := hb
  clear hb
  obtain ⟨hc, hf⟩ := bcell HB
  have hz : w.heap.size + 1 < w1.heap.size := by have := HB.size; simp at this; omega
  have hB := (((Below.refl w.heap.size w).alloc (Nat.le_refl _) (.cells #[.bool p, .string s] 37)).alloc (by simp) (.cells #[.bool false, .string ⟨#[]⟩] 37)).trans (HB.mono (by simp; omega))
  go_wp2
  exact bodyPost_ret (v := .agg #[.bool false, .string ⟨#[]⟩]) (by simp [results, Try.results31, go_sem, hc]) rfl ⟨rfl, (hB.setCell (by simp) _).setCell (by simp) _⟩

set_option maxHeartbeats 16000000 in
set_option maxRecDepth 100000 in
theorem ireads_core (p q ok vb bO bF bN : Bool) (s t tO tF tN : ByteArray) (v n c : Int) (w : World) (hs : s.size ≤ 140) (ht : t.size ≤ 140)
    (cS1 : ∀ W, Calls Try.prog 22 #[.agg #[.bool p, .string s]] W (Made W (.tuple #[.int .i64 v, .bool ok])))
    (cS2 : ∀ W, Calls Try.prog 23 #[.agg #[.bool p, .string s]] W (Made W (.tuple #[.int .i64 v, .bool ok])))
    (cO1 : ∀ W, Calls Try.prog 24 #[.int .i64 n] W (Made W (.agg #[.bool bO, .string tO])))
    (cO2 : ∀ W, Calls Try.prog 27 #[.int .i64 n] W (Made W (.agg #[.bool bO, .string tO])))
    (cS3 : ∀ W, Calls Try.prog 22 #[.agg #[.bool bO, .string tO]] W (Made W (.tuple #[.int .i64 n, .bool true])))
    (cV1 : ∀ W, Calls Try.prog 25 #[.agg #[.bool p, .string s]] W (Made W (.bool vb)))
    (cV2 : ∀ W, Calls Try.prog 26 #[.agg #[.bool p, .string s]] W (Made W (.bool vb)))
    (cF1 : ∀ W, Calls Try.prog 28 #[.string s] W (Made W (.agg #[.bool bF, .string tF])))
    (cF2 : ∀ W, Calls Try.prog 29 #[.string s] W (Made W (.agg #[.bool bF, .string tF])))
    (cN1 : ∀ W, Calls Try.prog 30 #[.agg #[.bool p, .string s]] W (Made W (.agg #[.bool bN, .string tN])))
    (cN2 : ∀ W, Calls Try.prog 31 #[.agg #[.bool p, .string s]] W (Made W (.agg #[.bool bN, .string tN])))
    (cC1 : ∀ W, Calls Try.prog 32 #[.agg #[.bool p, .string s], .agg #[.bool q, .string t]] W (Made W (.int .i64 c)))
    (cC2 : ∀ W, Calls Try.prog 33 #[.agg #[.bool p, .string s], .agg #[.bool q, .string t]] W (Made W (.int .i64 c))) :
    Calls Try.prog 5 #[.agg #[.bool p, .string s], .agg #[.bool q, .string t], .int .i64 n] w (Made w (.bool true)) := by
  have S1 := Lib.hid cS1
  have S2 := Lib.hid cS2
  have O1 := Lib.hid cO1
  have O2 := Lib.hid cO2
  have S3 := Lib.hid cS3
  have V1 := Lib.hid cV1
  have V2 := Lib.hid cV2
  have F1 := Lib.hid cF1
  have F2 := Lib.hid cF2
  have N1 := Lib.hid cN1
  have N2 := Lib.hid cN2
  have C1 := Lib.hid cC1
  have C2 := Lib.hid cC2
  clear cS1 cS2 cO1 cO2 cS3 cV1 cV2 cF1 cF2 cN1 cN2 cC1 cC2
  have K0 := ((Bk.new w #[.bool p, .string s] 37).alloc (.cells #[.bool q, .string t] 37)).alloc (.cells #[.bool p, .string s, .bool q, .string t] 37)
  have K1 := (Bk.new1 w (.cells #[.bool p, .string s] 37) #[.bool q, .string t] 37).alloc (.cells #[.bool p, .string s, .bool q, .string t] 37)
  have KS : Bk (((w.alloc (.cells #[.bool p, .string s] 37)).alloc (.cells #[.bool q, .string t] 37)).alloc (.cells #[.bool p, .string s, .bool q, .string t] 37)) (w.heap.size + 1 + 1) #[.bool p, .string s, .bool q, .string t] 37 := by
    have := Bk.new ((w.alloc (.cells #[.bool p, .string s] 37)).alloc (.cells #[.bool q, .string t] 37)) #[.bool p, .string s, .bool q, .string t] 37
    rwa [show ((w.alloc (.cells #[.bool p, .string s] 37)).alloc (.cells #[.bool q, .string t] 37)).heap.size = w.heap.size + 1 + 1 from by simp] at this
  have HV : Below w.heap.size w (((w.alloc (.cells #[.bool p, .string s] 37)).alloc (.cells #[.bool q, .string t] 37)).alloc (.cells #[.bool p, .string s, .bool q, .string t] 37)) := ((((Below.refl w.heap.size w).alloc (Nat.le_refl _) (.cells #[.bool p, .string s] 37)).alloc (by simp) (.cells #[.bool q, .string t] 37)).alloc (by simp; omega) (.cells #[.bool p, .string s, .bool q, .string t] 37))
  have HF := Lib.hid (long_no (w.heap.size + 1 + 1) 2 2 (fun k => if k = 0 then s else t) (((w.alloc (.cells #[.bool p, .string s] 37)).alloc (.cells #[.bool q, .string t] 37)).alloc (.cells #[.bool p, .string s, .bool q, .string t] 37)) (fun k hk => by
    match k, hk with
    | 0, _ => exact KS.cell 1
    | 1, _ => exact KS.cell 3) (by decide) (fun k hk => by
      match k, hk with
      | 0, _ => exact hs
      | 1, _ => exact ht))
  clear KS
  go_enter Try.func5, Try.ntmps5
  go_wp2_with fail
  refine HF.out.mono ?_
  rintro e w' ⟨rfl, rfl⟩
  go_wp2_with fail
  refine (S1.out _).mono ?_
  rintro e u1 ⟨rfl, hb⟩
  replace K0 := K0.below hb
  replace K1 := K1.below hb
  replace HV := HV.trans (hb.mono HV.size)
  clear hb
  have a0 : u1.cell? ⟨w.heap.size, 0, none⟩ = some (.bool p) := K0.cell 0
  have a1 : u1.cell? ⟨w.heap.size, 1, none⟩ = some (.string s) := K0.cell 1
  have a2 : u1.cell? ⟨w.heap.size + 1, 0, none⟩ = some (.bool q) := K1.cell 0
  have a3 : u1.cell? ⟨w.heap.size + 1, 1, none⟩ = some (.string t) := K1.cell 1
  have l0 : w.heap.size < u1.heap.size := K0.lt
  have l1 : w.heap.size + 1 < u1.heap.size := K1.lt
  go_wp2_with fail
  refine (S2.out _).mono ?_
  rintro e u2 ⟨rfl, hb⟩
  replace K0 := K0.below hb
  replace K1 := K1.below hb
  replace HV := HV.trans (hb.mono HV.size)
  clear hb
  clear a0 a1 a2 a3 l0 l1
  have a0 : u2.cell? ⟨w.heap.size, 0, none⟩ = some (.bool p) := K0.cell 0
  have a1 : u2.cell? ⟨w.heap.size, 1, none⟩ = some (.string s) := K0.cell 1
  have a2 : u2.cell? ⟨w.heap.size + 1, 0, none⟩ = some (.bool q) := K1.cell 0
  have a3 : u2.cell? ⟨w.heap.size + 1, 1, none⟩ = some (.string t) := K1.cell 1
  have l0 : w.heap.size < u2.heap.size := K0.lt
  have l1 : w.heap.size + 1 < u2.heap.size := K1.lt
  go_wp2_with fail
  refine (O1.out _).mono ?_
  rintro e u3 ⟨rfl, hb⟩
  replace K0 := K0.below hb
  replace K1 := K1.below hb
  replace HV := HV.trans (hb.mono HV.size)
  clear hb
  clear a0 a1 a2 a3 l0 l1
  have a0 : u3.cell? ⟨w.heap.size, 0, none⟩ = some (.bool p) := K0.cell 0
  have a1 : u3.cell? ⟨w.heap.size, 1, none⟩ = some (.string s) := K0.cell 1
  have a2 : u3.cell? ⟨w.heap.size + 1, 0, none⟩ = some (.bool q) := K1.cell 0
  have a3 : u3.cell? ⟨w.heap.size + 1, 1, none⟩ = some (.string t) := K1.cell 1
  have l0 : w.heap.size < u3.heap.size := K0.lt
  have l1 : w.heap.size + 1 < u3.heap.size := K1.lt
  go_wp2_with fail
  refine (S3.out _).mono ?_
  rintro e u4 ⟨rfl, hb⟩
  replace K0 := K0.below hb
  replace K1 := K1.below hb
  replace HV := HV.trans (hb.mono HV.size)
  clear hb
  clear a0 a1 a2 a3 l0 l1
  have a0 : u4.cell? ⟨w.heap.size, 0, none⟩ = some (.bool p) := K0.cell 0
  have a1 : u4.cell? ⟨w.heap.size, 1, none⟩ = some (.string s) := K0.cell 1
  have a2 : u4.cell? ⟨w.heap.size + 1, 0, none⟩ = some (.bool q) := K1.cell 0
  have a3 : u4.cell? ⟨w.heap.size + 1, 1, none⟩ = some (.string t) := K1.cell 1
  have l0 : w.heap.size < u4.heap.size := K0.lt
  have l1 : w.heap.size + 1 < u4.heap.size := K1.lt
  clear a0 a1 a2 a3 l0 l1
  go_upto_region 6 with fail
  generalize u4 = v1 at *
  go_cut [6] from 34 (fun s6 wx => s6 = .bool true ∧ Below w.heap.size w wx)
  case first =>
    go_region_held3 (fun w' => w'.cell? ⟨w.heap.size, 0, none⟩ = some (.bool p) ∧ w'.cell? ⟨w.heap.size, 1, none⟩ = some (.string s) ∧ w'.cell? ⟨w.heap.size + 1, 0, none⟩ = some (.bool q) ∧ w'.cell? ⟨w.heap.size + 1, 1, none⟩ = some (.string t) ∧ Hid (Bk w' w.heap.size #[.bool p, .string s] 37 ∧ Bk w' (w.heap.size + 1) #[.bool q, .string t] 37 ∧ Below w.heap.size w w')) (first | assumption | exact ⟨(K0.drew).cell 0, (K0.drew).cell 1, (K1.drew).cell 0, (K1.drew).cell 1, Lib.hid ⟨K0.drew, K1.drew, HV.drew⟩⟩) (first | (go_at_call 21; (refine (iawake_any _).mono ?_); rintro e q0 ⟨rfl, hb⟩; obtain ⟨_, _, _, _, hk⟩ := ‹_ ∧ _›; obtain ⟨k0, k1, hv⟩ := hk.out; have hSx : q0.cell? ⟨w.heap.size, 0, none⟩ = some (.bool p) ∧ q0.cell? ⟨w.heap.size, 1, none⟩ = some (.string s) ∧ q0.cell? ⟨w.heap.size + 1, 0, none⟩ = some (.bool q) ∧ q0.cell? ⟨w.heap.size + 1, 1, none⟩ = some (.string t) ∧ Hid (Bk q0 w.heap.size #[.bool p, .string s] 37 ∧ Bk q0 (w.heap.size + 1) #[.bool q, .string t] 37 ∧ Below w.heap.size w q0) := ⟨(k0.below hb).cell 0, (k0.below hb).cell 1, (k1.below hb).cell 0, (k1.below hb).cell 1, Lib.hid ⟨k0.below hb, k1.below hb, hv.trans (hb.mono hv.size)⟩⟩; clear hb hv hk k0 k1) | (go_at_call 25; (refine (V1.out _).mono ?_); rintro e q1 ⟨rfl, hb⟩; obtain ⟨_, _, _, _, hk⟩ := ‹_ ∧ _›; obtain ⟨k0, k1, hv⟩ := hk.out; have hSx : q1.cell? ⟨w.heap.size, 0, none⟩ = some (.bool p) ∧ q1.cell? ⟨w.heap.size, 1, none⟩ = some (.string s) ∧ q1.cell? ⟨w.heap.size + 1, 0, none⟩ = some (.bool q) ∧ q1.cell? ⟨w.heap.size + 1, 1, none⟩ = some (.string t) ∧ Hid (Bk q1 w.heap.size #[.bool p, .string s] 37 ∧ Bk q1 (w.heap.size + 1) #[.bool q, .string t] 37 ∧ Below w.heap.size w q1) := ⟨(k0.below hb).cell 0, (k0.below hb).cell 1, (k1.below hb).cell 0, (k1.below hb).cell 1, Lib.hid ⟨k0.below hb, k1.below hb, hv.trans (hb.mono hv.size)⟩⟩; clear hb hv hk k0 k1) | (go_at_call 26; (refine (V2.out _).mono ?_); rintro e q2 ⟨rfl, hb⟩; obtain ⟨_, _, _, _, hk⟩ := ‹_ ∧ _›; obtain ⟨k0, k1, hv⟩ := hk.out; have hSx : q2.cell? ⟨w.heap.size, 0, none⟩ = some (.bool p) ∧ q2.cell? ⟨w.heap.size, 1, none⟩ = some (.string s) ∧ q2.cell? ⟨w.heap.size + 1, 0, none⟩ = some (.bool q) ∧ q2.cell? ⟨w.heap.size + 1, 1, none⟩ = some (.string t) ∧ Hid (Bk q2 w.heap.size #[.bool p, .string s] 37 ∧ Bk q2 (w.heap.size + 1) #[.bool q, .string t] 37 ∧ Below w.heap.size w q2) := ⟨(k0.below hb).cell 0, (k0.below hb).cell 1, (k1.below hb).cell 0, (k1.below hb).cell 1, Lib.hid ⟨k0.below hb, k1.below hb, hv.trans (hb.mono hv.size)⟩⟩; clear hb hv hk k0 k1) | (go_at_call 24; (refine (O1.out _).mono ?_); rintro e q3 ⟨rfl, hb⟩; obtain ⟨_, _, _, _, hk⟩ := ‹_ ∧ _›; obtain ⟨k0, k1, hv⟩ := hk.out; have hSx : q3.cell? ⟨w.heap.size, 0, none⟩ = some (.bool p) ∧ q3.cell? ⟨w.heap.size, 1, none⟩ = some (.string s) ∧ q3.cell? ⟨w.heap.size + 1, 0, none⟩ = some (.bool q) ∧ q3.cell? ⟨w.heap.size + 1, 1, none⟩ = some (.string t) ∧ Hid (Bk q3 w.heap.size #[.bool p, .string s] 37 ∧ Bk q3 (w.heap.size + 1) #[.bool q, .string t] 37 ∧ Below w.heap.size w q3) := ⟨(k0.below hb).cell 0, (k0.below hb).cell 1, (k1.below hb).cell 0, (k1.below hb).cell 1, Lib.hid ⟨k0.below hb, k1.below hb, hv.trans (hb.mono hv.size)⟩⟩; clear hb hv hk k0 k1) | (go_at_call 27; (refine (O2.out _).mono ?_); rintro e q4 ⟨rfl, hb⟩; obtain ⟨_, _, _, _, hk⟩ := ‹_ ∧ _›; obtain ⟨k0, k1, hv⟩ := hk.out; have hSx : q4.cell? ⟨w.heap.size, 0, none⟩ = some (.bool p) ∧ q4.cell? ⟨w.heap.size, 1, none⟩ = some (.string s) ∧ q4.cell? ⟨w.heap.size + 1, 0, none⟩ = some (.bool q) ∧ q4.cell? ⟨w.heap.size + 1, 1, none⟩ = some (.string t) ∧ Hid (Bk q4 w.heap.size #[.bool p, .string s] 37 ∧ Bk q4 (w.heap.size + 1) #[.bool q, .string t] 37 ∧ Below w.heap.size w q4) := ⟨(k0.below hb).cell 0, (k0.below hb).cell 1, (k1.below hb).cell 0, (k1.below hb).cell 1, Lib.hid ⟨k0.below hb, k1.below hb, hv.trans (hb.mono hv.size)⟩⟩; clear hb hv hk k0 k1) | (go_at_call 28; (refine (F1.out _).mono ?_); rintro e q5 ⟨rfl, hb⟩; obtain ⟨_, _, _, _, hk⟩ := ‹_ ∧ _›; obtain ⟨k0, k1, hv⟩ := hk.out; have hSx : q5.cell? ⟨w.heap.size, 0, none⟩ = some (.bool p) ∧ q5.cell? ⟨w.heap.size, 1, none⟩ = some (.string s) ∧ q5.cell? ⟨w.heap.size + 1, 0, none⟩ = some (.bool q) ∧ q5.cell? ⟨w.heap.size + 1, 1, none⟩ = some (.string t) ∧ Hid (Bk q5 w.heap.size #[.bool p, .string s] 37 ∧ Bk q5 (w.heap.size + 1) #[.bool q, .string t] 37 ∧ Below w.heap.size w q5) := ⟨(k0.below hb).cell 0, (k0.below hb).cell 1, (k1.below hb).cell 0, (k1.below hb).cell 1, Lib.hid ⟨k0.below hb, k1.below hb, hv.trans (hb.mono hv.size)⟩⟩; clear hb hv hk k0 k1) | (go_at_call 29; (refine (F2.out _).mono ?_); rintro e q6 ⟨rfl, hb⟩; obtain ⟨_, _, _, _, hk⟩ := ‹_ ∧ _›; obtain ⟨k0, k1, hv⟩ := hk.out; have hSx : q6.cell? ⟨w.heap.size, 0, none⟩ = some (.bool p) ∧ q6.cell? ⟨w.heap.size, 1, none⟩ = some (.string s) ∧ q6.cell? ⟨w.heap.size + 1, 0, none⟩ = some (.bool q) ∧ q6.cell? ⟨w.heap.size + 1, 1, none⟩ = some (.string t) ∧ Hid (Bk q6 w.heap.size #[.bool p, .string s] 37 ∧ Bk q6 (w.heap.size + 1) #[.bool q, .string t] 37 ∧ Below w.heap.size w q6) := ⟨(k0.below hb).cell 0, (k0.below hb).cell 1, (k1.below hb).cell 0, (k1.below hb).cell 1, Lib.hid ⟨k0.below hb, k1.below hb, hv.trans (hb.mono hv.size)⟩⟩; clear hb hv hk k0 k1) | (go_at_call 30; (refine (N1.out _).mono ?_); rintro e q7 ⟨rfl, hb⟩; obtain ⟨_, _, _, _, hk⟩ := ‹_ ∧ _›; obtain ⟨k0, k1, hv⟩ := hk.out; have hSx : q7.cell? ⟨w.heap.size, 0, none⟩ = some (.bool p) ∧ q7.cell? ⟨w.heap.size, 1, none⟩ = some (.string s) ∧ q7.cell? ⟨w.heap.size + 1, 0, none⟩ = some (.bool q) ∧ q7.cell? ⟨w.heap.size + 1, 1, none⟩ = some (.string t) ∧ Hid (Bk q7 w.heap.size #[.bool p, .string s] 37 ∧ Bk q7 (w.heap.size + 1) #[.bool q, .string t] 37 ∧ Below w.heap.size w q7) := ⟨(k0.below hb).cell 0, (k0.below hb).cell 1, (k1.below hb).cell 0, (k1.below hb).cell 1, Lib.hid ⟨k0.below hb, k1.below hb, hv.trans (hb.mono hv.size)⟩⟩; clear hb hv hk k0 k1) | (go_at_call 31; (refine (N2.out _).mono ?_); rintro e q8 ⟨rfl, hb⟩; obtain ⟨_, _, _, _, hk⟩ := ‹_ ∧ _›; obtain ⟨k0, k1, hv⟩ := hk.out; have hSx : q8.cell? ⟨w.heap.size, 0, none⟩ = some (.bool p) ∧ q8.cell? ⟨w.heap.size, 1, none⟩ = some (.string s) ∧ q8.cell? ⟨w.heap.size + 1, 0, none⟩ = some (.bool q) ∧ q8.cell? ⟨w.heap.size + 1, 1, none⟩ = some (.string t) ∧ Hid (Bk q8 w.heap.size #[.bool p, .string s] 37 ∧ Bk q8 (w.heap.size + 1) #[.bool q, .string t] 37 ∧ Below w.heap.size w q8) := ⟨(k0.below hb).cell 0, (k0.below hb).cell 1, (k1.below hb).cell 0, (k1.below hb).cell 1, Lib.hid ⟨k0.below hb, k1.below hb, hv.trans (hb.mono hv.size)⟩⟩; clear hb hv hk k0 k1) | (go_at_call 32; (refine (C1.out _).mono ?_); rintro e q9 ⟨rfl, hb⟩; obtain ⟨_, _, _, _, hk⟩ := ‹_ ∧ _›; obtain ⟨k0, k1, hv⟩ := hk.out; have hSx : q9.cell? ⟨w.heap.size, 0, none⟩ = some (.bool p) ∧ q9.cell? ⟨w.heap.size, 1, none⟩ = some (.string s) ∧ q9.cell? ⟨w.heap.size + 1, 0, none⟩ = some (.bool q) ∧ q9.cell? ⟨w.heap.size + 1, 1, none⟩ = some (.string t) ∧ Hid (Bk q9 w.heap.size #[.bool p, .string s] 37 ∧ Bk q9 (w.heap.size + 1) #[.bool q, .string t] 37 ∧ Below w.heap.size w q9) := ⟨(k0.below hb).cell 0, (k0.below hb).cell 1, (k1.below hb).cell 0, (k1.below hb).cell 1, Lib.hid ⟨k0.below hb, k1.below hb, hv.trans (hb.mono hv.size)⟩⟩; clear hb hv hk k0 k1) | (go_at_call 33; (refine (C2.out _).mono ?_); rintro e q10 ⟨rfl, hb⟩; obtain ⟨_, _, _, _, hk⟩ := ‹_ ∧ _›; obtain ⟨k0, k1, hv⟩ := hk.out; have hSx : q10.cell? ⟨w.heap.size, 0, none⟩ = some (.bool p) ∧ q10.cell? ⟨w.heap.size, 1, none⟩ = some (.string s) ∧ q10.cell? ⟨w.heap.size + 1, 0, none⟩ = some (.bool q) ∧ q10.cell? ⟨w.heap.size + 1, 1, none⟩ = some (.string t) ∧ Hid (Bk q10 w.heap.size #[.bool p, .string s] 37 ∧ Bk q10 (w.heap.size + 1) #[.bool q, .string t] 37 ∧ Below w.heap.size w q10) := ⟨(k0.below hb).cell 0, (k0.below hb).cell 1, (k1.below hb).cell 0, (k1.below hb).cell 1, Lib.hid ⟨k0.below hb, k1.below hb, hv.trans (hb.mono hv.size)⟩⟩; clear hb hv hk k0 k1))
    all_goals
      go_wp2_with fail
      go_meet
      obtain ⟨_, _, _, _, hk⟩ := ‹_ ∧ _›
      obtain ⟨_, _, hv⟩ := hk.out
      exact ⟨rfl, hv⟩
  case rest =>
  obtain ⟨rfl, HV⟩ := hcut
  go_wp2
  go_ret
  exact ⟨rfl, HV⟩

set_option maxHeartbeats 1000000 in
set_option maxRecDepth 100000 in
theorem ireads_big (p q : Bool) (s t : ByteArray) (n : Int) (w : World) (hs : s.size ≤ 9223372036854775807) (ht : t.size ≤ 9223372036854775807) (h : 140 < s.size ∨ 140 < t.size) :
    Calls Try.prog 5 #[.agg #[.bool p, .string s], .agg #[.bool q, .string t], .int .i64 n] w (Made w (.bool true)) := by
  have K0 := ((Bk.new w #[.bool p, .string s] 37).alloc (.cells #[.bool q, .string t] 37)).alloc (.cells #[.bool p, .string s, .bool q, .string t] 37)
  have K1 := (Bk.new1 w (.cells #[.bool p, .string s] 37) #[.bool q, .string t] 37).alloc (.cells #[.bool p, .string s, .bool q, .string t] 37)
  have KS : Bk (((w.alloc (.cells #[.bool p, .string s] 37)).alloc (.cells #[.bool q, .string t] 37)).alloc (.cells #[.bool p, .string s, .bool q, .string t] 37)) (w.heap.size + 1 + 1) #[.bool p, .string s, .bool q, .string t] 37 := by
    have := Bk.new ((w.alloc (.cells #[.bool p, .string s] 37)).alloc (.cells #[.bool q, .string t] 37)) #[.bool p, .string s, .bool q, .string t] 37
    rwa [show ((w.alloc (.cells #[.bool p, .string s] 37)).alloc (.cells #[.bool q, .string t] 37)).heap.size = w.heap.size + 1 + 1 from by simp] at this
  have HV : Below w.heap.size w (((w.alloc (.cells #[.bool p, .string s] 37)).alloc (.cells #[.bool q, .string t] 37)).alloc (.cells #[.bool p, .string s, .bool q, .string t] 37)) := ((((Below.refl w.heap.size w).alloc (Nat.le_refl _) (.cells #[.bool p, .string s] 37)).alloc (by simp) (.cells #[.bool q, .string t] 37)).alloc (by simp; omega) (.cells #[.bool p, .string s, .bool q, .string t] 37))
  have HF := Lib.hid (long_yes (w.heap.size + 1 + 1) 2 2 (fun k => if k = 0 then s else t) (((w.alloc (.cells #[.bool p, .string s] 37)).alloc (.cells #[.bool q, .string t] 37)).alloc (.cells #[.bool p, .string s, .bool q, .string t] 37)) (fun k hk => by
    match k, hk with
    | 0, _ => exact KS.cell 1
    | 1, _ => exact KS.cell 3) (by decide) (fun k hk => by
      match k, hk with
      | 0, _ => exact hs
      | 1, _ => exact ht) (by
      rcases h with h | h
      · exact ⟨0, by omega, h⟩
      · exact ⟨1, by omega, h⟩))
  clear KS
  clear K0 K1
  go_enter Try.func5, Try.ntmps5
  go_wp2_with fail
  refine HF.out.mono ?_
  rintro e w' ⟨rfl, rfl⟩
  go_wp2_with fail
  refine (iawake_any _).mono ?_
  rintro e ua ⟨rfl, hb⟩
  replace HV := HV.trans (hb.mono HV.size)
  go_wp2
  go_ret
  exact ⟨rfl, HV⟩
theorem both_valid (p : Bool) (s : ByteArray) (hs : s.size ≤ 9223372036854775807) : ∃ vb : Bool, (∀ W, Calls Try.prog 25 #[.agg #[.bool p, .string s]] W (Made W (.bool vb))) ∧ (∀ W, Calls Try.prog 26 #[.agg #[.bool p, .string s]] W (Made W (.bool vb))) :=
  ⟨_, fun W => ivalid_core p _ _ s W hs rfl rfl, fun W => rivalid_core p _ _ s W hs rfl rfl⟩
theorem both_from (s : ByteArray) (hs : s.size ≤ 9223372036854775807) : ∃ (b : Bool) (u : ByteArray), (∀ W, Calls Try.prog 28 #[.string s] W (Made W (.agg #[.bool b, .string u]))) ∧ (∀ W, Calls Try.prog 29 #[.string s] W (Made W (.agg #[.bool b, .string u]))) := by
  rcases h : validB s with _ | _
  · exact ⟨_, _, fun W => from_no h W hs, fun W => rfrom_no h W hs⟩
  · obtain ⟨n, hn, rfl⟩ := bs_of_valid h
    exact ⟨_, _, fun W => from_yes hn W, fun W => rfrom_yes hn W⟩
theorem both_neg (p : Bool) (s : ByteArray) (hs : s.size ≤ 9223372036854775807) : ∃ (b : Bool) (u : ByteArray), (∀ W, Calls Try.prog 30 #[.agg #[.bool p, .string s]] W (Made W (.agg #[.bool b, .string u]))) ∧ (∀ W, Calls Try.prog 31 #[.agg #[.bool p, .string s]] W (Made W (.agg #[.bool b, .string u]))) := by
  rcases h : vI p s with _ | _
  · exact ⟨_, _, fun W => neg_no h hs W, fun W => rneg_no h hs W⟩
  · obtain ⟨z, hz, rfl, rfl⟩ := vI_of h
    exact ⟨_, _, fun W => neg_yes hz W, fun W => rneg_yes hz W⟩
theorem both_cmp (p q : Bool) (s t : ByteArray) (hs : s.size ≤ 9223372036854775807) (ht : t.size ≤ 9223372036854775807) : ∃ c : Int, (∀ W, Calls Try.prog 32 #[.agg #[.bool p, .string s], .agg #[.bool q, .string t]] W (Made W (.int .i64 c))) ∧ (∀ W, Calls Try.prog 33 #[.agg #[.bool p, .string s], .agg #[.bool q, .string t]] W (Made W (.int .i64 c))) := by
  rcases h1 : vI p s with _ | _
  · exact ⟨_, fun W => icmp_no1 h1 hs W, fun W => ricmp_no1 h1 hs W⟩
  · obtain ⟨x, hx, rfl, rfl⟩ := vI_of h1
    rcases h2 : vI q t with _ | _
    · exact ⟨_, fun W => icmp_no2 hx h2 ht W, fun W => ricmp_no2 hx h2 ht W⟩
    · obtain ⟨y, hy, rfl, rfl⟩ := vI_of h2
      exact ⟨_, fun W => icmp_ok hx hy W, fun W => ricmp_ok hx hy W⟩
theorem law_ireads (p q : Bool) (s t : ByteArray) (n : Int) (w : World) (hs : s.size ≤ 9223372036854775807) (ht : t.size ≤ 9223372036854775807) (hn : -9223372036854775808 ≤ n ∧ n ≤ 9223372036854775807) :
    Calls Try.prog 5 #[.agg #[.bool p, .string s], .agg #[.bool q, .string t], .int .i64 n] w (Made w (.bool true)) := by
  by_cases h : 140 < s.size ∨ 140 < t.size
  · exact ireads_big p q s t n w hs ht h
  obtain ⟨v, ok, s1, s2⟩ := both_small p s hs
  obtain ⟨vb, v1, v2⟩ := both_valid p s hs
  obtain ⟨bF, tF, f1, f2⟩ := both_from s hs
  obtain ⟨bN, tN, n1, n2⟩ := both_neg p s hs
  obtain ⟨c, c1, c2⟩ := both_cmp p q s t hs ht
  exact ireads_core p q ok vb _ bF bN s t _ tF tN v n c w (by omega) (by omega) s1 s2 (fun W => iof_any n hn.1 hn.2 W) (fun W => riof_any n hn.1 hn.2 W) (fun W => ismall_in hn.1 hn.2 W) v1 v2 f1 f2 n1 n2 c1 c2

end Go.Proofs.Ytehpdpcpdfgnlaa
