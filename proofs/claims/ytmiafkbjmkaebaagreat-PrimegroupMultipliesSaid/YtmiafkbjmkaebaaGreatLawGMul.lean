/-
  The law of dominolaw09.PrimegroupMultiplies.
-/
import Derived.Test.YtmiafkbjmkaebaaGreatPg
namespace Go.Proofs.YtmiafkbjmkaebaaGreat
open Go.RowKit Num

set_option maxHeartbeats 1000000 in
set_option maxRecDepth 100000 in
theorem gmul_no (A B S T : ByteArray) (w : World) (HFW : ∀ (W : World) (gb : Nat), W.cell? ⟨gb, 0, none⟩ = some (.string S) → W.cell? ⟨gb, 1, none⟩ = some (.string T) → gb < W.heap.size → Calls Tryz.prog 11 #[.agg #[.string A, .string B], .slice (some ⟨gb, 0, none⟩) 2 2] W (Made W (.bool false))) :
    Calls Tryz.prog 5 #[.agg #[.string A, .string B], .string S, .string T] w (Made w (.bool true)) := by
  have HF := Lib.hid HFW
  have HW := Lib.hid awake9
  clear HFW
  have HV : Below w.heap.size w ((w.alloc (.cells #[.string A, .string B] 24)).alloc (.cells #[.string S, .string T] 22)) := (((Below.refl w.heap.size w).alloc (Nat.le_refl _) (.cells #[.string A, .string B] 24)).alloc (by simp) (.cells #[.string S, .string T] 22))
  have K0 : Bk ((w.alloc (.cells #[.string A, .string B] 24)).alloc (.cells #[.string S, .string T] 22)) w.heap.size #[.string A, .string B] 24 := ((Bk.new w #[.string A, .string B] 24).alloc (.cells #[.string S, .string T] 22))
  have K1 : Bk ((w.alloc (.cells #[.string A, .string B] 24)).alloc (.cells #[.string S, .string T] 22)) (w.heap.size + 1) #[.string S, .string T] 22 := by have h := (Bk.new (w.alloc (.cells #[.string A, .string B] 24)) #[.string S, .string T] 22); simpa using h
  go_enter Tryz.func5, Tryz.ntmps5
  go_wp2_with fail
  refine (HF.out _ _ (K1.cell 0) (K1.cell 1) K1.lt).mono ?_
  rintro e u1 ⟨rfl, hb⟩
  replace HV := HV.trans (hb.mono HV.size)
  replace K0 := K0.below hb
  replace K1 := K1.below hb
  clear hb
  have c0_0 : u1.cell? ⟨w.heap.size, 0, none⟩ = some (.string A) := K0.cell 0
  have c0_1 : u1.cell? ⟨w.heap.size, 1, none⟩ = some (.string B) := K0.cell 1
  have l0 := K0.lt
  have c1_0 : u1.cell? ⟨(w.heap.size + 1), 0, none⟩ = some (.string S) := K1.cell 0
  have c1_1 : u1.cell? ⟨(w.heap.size + 1), 1, none⟩ = some (.string T) := K1.cell 1
  have l1 := K1.lt
  go_wp2_with fail
  refine (HW.out _).mono ?_
  rintro e u2 ⟨rfl, hb⟩
  replace HV := HV.trans (hb.mono HV.size)
  replace K0 := K0.below hb
  replace K1 := K1.below hb
  clear hb
  clear c0_0 c0_1 l0
  have c0_0 : u2.cell? ⟨w.heap.size, 0, none⟩ = some (.string A) := K0.cell 0
  have c0_1 : u2.cell? ⟨w.heap.size, 1, none⟩ = some (.string B) := K0.cell 1
  have l0 := K0.lt
  clear c1_0 c1_1 l1
  have c1_0 : u2.cell? ⟨(w.heap.size + 1), 0, none⟩ = some (.string S) := K1.cell 0
  have c1_1 : u2.cell? ⟨(w.heap.size + 1), 1, none⟩ = some (.string T) := K1.cell 1
  have l1 := K1.lt
  go_wp2
  go_ret
  exact ⟨rfl, HV⟩
set_option maxHeartbeats 1000000 in
set_option maxRecDepth 100000 in
theorem gmul_yes (A B S T R : ByteArray) (c : Int) (w : World) (HFW : ∀ (W : World) (gb : Nat), W.cell? ⟨gb, 0, none⟩ = some (.string S) → W.cell? ⟨gb, 1, none⟩ = some (.string T) → gb < W.heap.size → Calls Tryz.prog 11 #[.agg #[.string A, .string B], .slice (some ⟨gb, 0, none⟩) 2 2] W (Made W (.bool true)))
    (h1 : ∀ W, Calls Tryz.prog 16 #[.agg #[.string A, .string B], .string S, .string T] W (Made W (.tuple #[.string R, .int .i64 c]))) (h2 : ∀ W, Calls Tryz.prog 17 #[.agg #[.string A, .string B], .string S, .string T] W (Made W (.tuple #[.string R, .int .i64 c]))) :
    Calls Tryz.prog 5 #[.agg #[.string A, .string B], .string S, .string T] w (Made w (.bool true)) := by
  have HF := Lib.hid HFW
  have H1 := Lib.hid h1
  have H2 := Lib.hid h2
  have HW := Lib.hid awake9
  clear HFW h1 h2
  have HV : Below w.heap.size w ((w.alloc (.cells #[.string A, .string B] 24)).alloc (.cells #[.string S, .string T] 22)) := (((Below.refl w.heap.size w).alloc (Nat.le_refl _) (.cells #[.string A, .string B] 24)).alloc (by simp) (.cells #[.string S, .string T] 22))
  have K0 : Bk ((w.alloc (.cells #[.string A, .string B] 24)).alloc (.cells #[.string S, .string T] 22)) w.heap.size #[.string A, .string B] 24 := ((Bk.new w #[.string A, .string B] 24).alloc (.cells #[.string S, .string T] 22))
  have K1 : Bk ((w.alloc (.cells #[.string A, .string B] 24)).alloc (.cells #[.string S, .string T] 22)) (w.heap.size + 1) #[.string S, .string T] 22 := by have h := (Bk.new (w.alloc (.cells #[.string A, .string B] 24)) #[.string S, .string T] 22); simpa using h
  go_enter Tryz.func5, Tryz.ntmps5
  go_wp2_with fail
  refine (HF.out _ _ (K1.cell 0) (K1.cell 1) K1.lt).mono ?_
  rintro e u1 ⟨rfl, hb⟩
  replace HV := HV.trans (hb.mono HV.size)
  replace K0 := K0.below hb
  replace K1 := K1.below hb
  clear hb
  have c0_0 : u1.cell? ⟨w.heap.size, 0, none⟩ = some (.string A) := K0.cell 0
  have c0_1 : u1.cell? ⟨w.heap.size, 1, none⟩ = some (.string B) := K0.cell 1
  have l0 := K0.lt
  have c1_0 : u1.cell? ⟨(w.heap.size + 1), 0, none⟩ = some (.string S) := K1.cell 0
  have c1_1 : u1.cell? ⟨(w.heap.size + 1), 1, none⟩ = some (.string T) := K1.cell 1
  have l1 := K1.lt
  go_wp2_with fail
  refine (H1.out _).mono ?_
  rintro e u2 ⟨rfl, hb⟩
  replace HV := HV.trans (hb.mono HV.size)
  replace K0 := K0.below hb
  replace K1 := K1.below hb
  clear hb
  clear c0_0 c0_1 l0
  have c0_0 : u2.cell? ⟨w.heap.size, 0, none⟩ = some (.string A) := K0.cell 0
  have c0_1 : u2.cell? ⟨w.heap.size, 1, none⟩ = some (.string B) := K0.cell 1
  have l0 := K0.lt
  clear c1_0 c1_1 l1
  have c1_0 : u2.cell? ⟨(w.heap.size + 1), 0, none⟩ = some (.string S) := K1.cell 0
  have c1_1 : u2.cell? ⟨(w.heap.size + 1), 1, none⟩ = some (.string T) := K1.cell 1
  have l1 := K1.lt
  go_wp2_with fail
  refine (H2.out _).mono ?_
  rintro e u3 ⟨rfl, hb⟩
  replace HV := HV.trans (hb.mono HV.size)
  replace K0 := K0.below hb
  replace K1 := K1.below hb
  clear hb
  clear c0_0 c0_1 l0
  have c0_0 : u3.cell? ⟨w.heap.size, 0, none⟩ = some (.string A) := K0.cell 0
  have c0_1 : u3.cell? ⟨w.heap.size, 1, none⟩ = some (.string B) := K0.cell 1
  have l0 := K0.lt
  clear c1_0 c1_1 l1
  have c1_0 : u3.cell? ⟨(w.heap.size + 1), 0, none⟩ = some (.string S) := K1.cell 0
  have c1_1 : u3.cell? ⟨(w.heap.size + 1), 1, none⟩ = some (.string T) := K1.cell 1
  have l1 := K1.lt
  go_wp2_with fail
  refine (HW.out _).mono ?_
  rintro e u4 ⟨rfl, hb⟩
  replace HV := HV.trans (hb.mono HV.size)
  replace K0 := K0.below hb
  replace K1 := K1.below hb
  clear hb
  clear c0_0 c0_1 l0
  have c0_0 : u4.cell? ⟨w.heap.size, 0, none⟩ = some (.string A) := K0.cell 0
  have c0_1 : u4.cell? ⟨w.heap.size, 1, none⟩ = some (.string B) := K0.cell 1
  have l0 := K0.lt
  clear c1_0 c1_1 l1
  have c1_0 : u4.cell? ⟨(w.heap.size + 1), 0, none⟩ = some (.string S) := K1.cell 0
  have c1_1 : u4.cell? ⟨(w.heap.size + 1), 1, none⟩ = some (.string T) := K1.cell 1
  have l1 := K1.lt
  go_wp2
  go_ret
  exact ⟨rfl, HV⟩
theorem both_gmul (A B S T : ByteArray) (hA : A.size ≤ 9223372036854775807) (hB : B.size ≤ 9223372036854775807) (hS : S.size ≤ 9223372036854775807) (hT : T.size ≤ 9223372036854775807) (h8 : A.size ≤ 8) : ∃ (R : ByteArray) (c : Int),
    (∀ W, Calls Tryz.prog 16 #[.agg #[.string A, .string B], .string S, .string T] W (Made W (.tuple #[.string R, .int .i64 c]))) ∧ (∀ W, Calls Tryz.prog 17 #[.agg #[.string A, .string B], .string S, .string T] W (Made W (.tuple #[.string R, .int .i64 c]))) := by
  rcases hv : (validB A && validB B && validB S && validB T) with _ | _
  · exact ⟨⟨#[]⟩, 3, fun W => pmul_bad A B S T 3 W (.inl rfl) (cel2_bad hA hB hS hT hv), fun W => rmul9_form A B S T W hA hB hS hT hv⟩
  · have hv' := hv
    simp only [Bool.and_eq_true] at hv'
    obtain ⟨⟨⟨v1, v2⟩, v3⟩, v4⟩ := hv'
    obtain ⟨p, hp, rfl⟩ := bs_of_valid v1
    obtain ⟨q, hq, rfl⟩ := bs_of_valid v2
    obtain ⟨a, ha, rfl⟩ := bs_of_valid v3
    obtain ⟨b, hb, rfl⟩ := bs_of_valid v4
    rw [bs_le] at h8
    have hc := cel2_ok hp hq ha hb
    have ra := fun W => rhas_ok p q a W h8 hq ha
    have rb := fun W => rhas_ok p q b W h8 hq hb
    rcases h1 : hasN p q a with _ | _
    · rw [h1] at hc ra
      exact ⟨⟨#[]⟩, 13, fun W => pmul_bad _ _ _ _ 13 W (.inr rfl) hc, fun W => rmul9_grp _ _ _ _ W hA hB hS hT hv (.inl ra)⟩
    · rcases h2 : hasN p q b with _ | _
      · rw [h1, h2] at hc
        rw [h1] at ra
        rw [h2] at rb
        exact ⟨⟨#[]⟩, 13, fun W => pmul_bad _ _ _ _ 13 W (.inr rfl) hc, fun W => rmul9_grp _ _ _ _ W hA hB hS hT hv (.inr ⟨ra, rb⟩)⟩
      · rw [h1, h2] at hc
        rw [h1] at ra
        rw [h2] at rb
        have h0 : p ≠ 0 := by have := (hasN_iff.1 h1).2.2.1; omega
        exact ⟨_, 0, fun W => pmul_ok p q a b W hp ha hb h0 hc, fun W => rmul9_ok _ _ _ _ _ W hA hB hS hT hv ra rb (fun W => rMul_ok a b p W ha hb h0 h8)⟩
theorem law_gmul (A B S T : ByteArray) (w : World) (hA : A.size ≤ 9223372036854775807) (hB : B.size ≤ 9223372036854775807) (hS : S.size ≤ 9223372036854775807) (hT : T.size ≤ 9223372036854775807) :
    Calls Tryz.prog 5 #[.agg #[.string A, .string B], .string S, .string T] w (Made w (.bool true)) := by
  obtain ⟨b, hF, hb⟩ := few9_two A B S T hA hB hS hT
  cases b with
  | false => exact gmul_no A B S T w hF
  | true =>
    obtain ⟨h8, _⟩ := hb rfl
    obtain ⟨R, c, h1, h2⟩ := both_gmul A B S T hA hB hS hT h8
    exact gmul_yes A B S T R c w hF h1 h2
end Go.Proofs.YtmiafkbjmkaebaaGreat
