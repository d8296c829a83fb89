/-
  The law of dominolaw09.PrimegroupHas.
-/
import Derived.Test.YtmiafkbjmkaebaaGreatPg
namespace Go.Proofs.YtmiafkbjmkaebaaGreat
open Go.RowKit Num


theorem gs_below {w w' w'' : World} {A B : ByteArray} (h : w'.cell? ⟨w.heap.size, 0, none⟩ = some (.string A) ∧ w'.cell? ⟨w.heap.size, 1, none⟩ = some (.string B) ∧ Hid (Below w.heap.size w w' ∧ Bk w' w.heap.size #[.string A, .string B] 24)) (hb : Below w'.heap.size w' w'') :
    w''.cell? ⟨w.heap.size, 0, none⟩ = some (.string A) ∧ w''.cell? ⟨w.heap.size, 1, none⟩ = some (.string B) ∧ Hid (Below w.heap.size w w'' ∧ Bk w'' w.heap.size #[.string A, .string B] 24) := by
  obtain ⟨h1, h2⟩ := h.2.2.out
  have K := h2.below hb
  exact ⟨K.cell 0, K.cell 1, Lib.hid ⟨h1.trans (hb.mono h1.size), K⟩⟩

set_option maxHeartbeats 1000000 in
set_option maxRecDepth 100000 in
theorem ghas_no (A B S : ByteArray) (w : World) (HFW : ∀ (W : World) (gb : Nat), W.cell? ⟨gb, 0, none⟩ = some (.string S) → gb < W.heap.size → Calls Tryz.prog 11 #[.agg #[.string A, .string B], .slice (some ⟨gb, 0, none⟩) 1 1] W (Made W (.bool false))) :
    Calls Tryz.prog 4 #[.agg #[.string A, .string B], .string S] w (Made w (.bool true)) := by
  have HF := Lib.hid HFW
  have HW := Lib.hid awake9
  clear HFW
  have HV : Below w.heap.size w ((w.alloc (.cells #[.string A, .string B] 24)).alloc (.cells #[.string S] 22)) := (((Below.refl w.heap.size w).alloc (Nat.le_refl _) (.cells #[.string A, .string B] 24)).alloc (by simp) (.cells #[.string S] 22))
  have K0 : Bk ((w.alloc (.cells #[.string A, .string B] 24)).alloc (.cells #[.string S] 22)) w.heap.size #[.string A, .string B] 24 := ((Bk.new w #[.string A, .string B] 24).alloc (.cells #[.string S] 22))
  have K1 : Bk ((w.alloc (.cells #[.string A, .string B] 24)).alloc (.cells #[.string S] 22)) (w.heap.size + 1) #[.string S] 22 := by have h := (Bk.new (w.alloc (.cells #[.string A, .string B] 24)) #[.string S] 22); simpa using h
  go_enter Tryz.func4, Tryz.ntmps4
  go_wp2_with fail
  refine (HF.out _ _ (K1.cell 0) K1.lt).mono ?_
  rintro e u1 ⟨rfl, hb⟩
  replace HV := HV.trans (hb.mono HV.size)
  replace K0 := K0.below hb
  replace K1 := K1.below hb
  clear hb
  have c0_0 : u1.cell? ⟨w.heap.size, 0, none⟩ = some (.string A) := K0.cell 0
  have c0_1 : u1.cell? ⟨w.heap.size, 1, none⟩ = some (.string B) := K0.cell 1
  have l0 := K0.lt
  have c1_0 : u1.cell? ⟨(w.heap.size + 1), 0, none⟩ = some (.string S) := K1.cell 0
  have l1 := K1.lt
  go_wp2_with fail
  refine (HW.out _).mono ?_
  rintro e u2 ⟨rfl, hb⟩
  replace HV := HV.trans (hb.mono HV.size)
  replace K0 := K0.below hb
  replace K1 := K1.below hb
  clear hb
  clear c0_0 c0_1 l0
  have c0_0 : u2.cell? ⟨w.heap.size, 0, none⟩ = some (.string A) := K0.cell 0
  have c0_1 : u2.cell? ⟨w.heap.size, 1, none⟩ = some (.string B) := K0.cell 1
  have l0 := K0.lt
  clear c1_0 l1
  have c1_0 : u2.cell? ⟨(w.heap.size + 1), 0, none⟩ = some (.string S) := K1.cell 0
  have l1 := K1.lt
  go_wp2
  go_ret
  exact ⟨rfl, HV⟩
set_option maxHeartbeats 4000000 in
set_option maxRecDepth 100000 in
theorem ghas_yes (A B S : ByteArray) (b g : Bool) (w : World) (HFW : ∀ (W : World) (gb : Nat), W.cell? ⟨gb, 0, none⟩ = some (.string S) → gb < W.heap.size → Calls Tryz.prog 11 #[.agg #[.string A, .string B], .slice (some ⟨gb, 0, none⟩) 1 1] W (Made W (.bool true)))
    (h1 : ∀ W, Calls Tryz.prog 12 #[.agg #[.string A, .string B], .string S] W (Made W (.bool b))) (h2 : ∀ W, Calls Tryz.prog 13 #[.agg #[.string A, .string B], .string S] W (Made W (.bool b)))
    (h3 : ∀ W, Calls Tryz.prog 14 #[.agg #[.string A, .string B], .string S] W (Made W (.bool g))) (h4 : ∀ W, Calls Tryz.prog 15 #[.agg #[.string A, .string B], .string S] W (Made W (.bool g))) :
    Calls Tryz.prog 4 #[.agg #[.string A, .string B], .string S] w (Made w (.bool true)) := by
  have HF := Lib.hid HFW
  have H1 := Lib.hid h1
  have H2 := Lib.hid h2
  have H3 := Lib.hid h3
  have H4 := Lib.hid h4
  have HW := Lib.hid awake9
  clear HFW h1 h2 h3 h4
  cases b <;> cases g
  all_goals
    have HV : Below w.heap.size w ((w.alloc (.cells #[.string A, .string B] 24)).alloc (.cells #[.string S] 22)) := (((Below.refl w.heap.size w).alloc (Nat.le_refl _) (.cells #[.string A, .string B] 24)).alloc (by simp) (.cells #[.string S] 22))
    have K0 : Bk ((w.alloc (.cells #[.string A, .string B] 24)).alloc (.cells #[.string S] 22)) w.heap.size #[.string A, .string B] 24 := ((Bk.new w #[.string A, .string B] 24).alloc (.cells #[.string S] 22))
    have K1 : Bk ((w.alloc (.cells #[.string A, .string B] 24)).alloc (.cells #[.string S] 22)) (w.heap.size + 1) #[.string S] 22 := by have h := (Bk.new (w.alloc (.cells #[.string A, .string B] 24)) #[.string S] 22); simpa using h
    go_enter Tryz.func4, Tryz.ntmps4
    go_wp2_with fail
    refine (HF.out _ _ (K1.cell 0) K1.lt).mono ?_
    rintro e u1 ⟨rfl, hb⟩
    replace HV := HV.trans (hb.mono HV.size)
    replace K0 := K0.below hb
    replace K1 := K1.below hb
    clear hb
    have c0_0 : u1.cell? ⟨w.heap.size, 0, none⟩ = some (.string A) := K0.cell 0
    have c0_1 : u1.cell? ⟨w.heap.size, 1, none⟩ = some (.string B) := K0.cell 1
    have l0 := K0.lt
    have c1_0 : u1.cell? ⟨(w.heap.size + 1), 0, none⟩ = some (.string S) := K1.cell 0
    have l1 := K1.lt
    go_wp2_with fail
    clear K1 c1_0 l1
    go_region_held3 (fun w' => w'.cell? ⟨w.heap.size, 0, none⟩ = some (.string A) ∧ w'.cell? ⟨w.heap.size, 1, none⟩ = some (.string B) ∧ Hid (Below w.heap.size w w' ∧ Bk w' w.heap.size #[.string A, .string B] 24)) (first | assumption | exact ⟨K0.drew.cell 0, K0.drew.cell 1, Lib.hid ⟨HV.drew, K0.drew⟩⟩) (first | (go_at_call 12; have hq := ‹_ ∧ _›; (with_reducible refine (H1.out _).mono ?_); rintro e v1 ⟨rfl, hb⟩; have hSv1 : v1.cell? ⟨w.heap.size, 0, none⟩ = some (.string A) ∧ v1.cell? ⟨w.heap.size, 1, none⟩ = some (.string B) ∧ Hid (Below w.heap.size w v1 ∧ Bk v1 w.heap.size #[.string A, .string B] 24) := gs_below hq hb; clear hq hb) | (go_at_call 13; have hq := ‹_ ∧ _›; (with_reducible refine (H2.out _).mono ?_); rintro e v2 ⟨rfl, hb⟩; have hSv2 : v2.cell? ⟨w.heap.size, 0, none⟩ = some (.string A) ∧ v2.cell? ⟨w.heap.size, 1, none⟩ = some (.string B) ∧ Hid (Below w.heap.size w v2 ∧ Bk v2 w.heap.size #[.string A, .string B] 24) := gs_below hq hb; clear hq hb) | (go_at_call 14; have hq := ‹_ ∧ _›; (with_reducible refine (H3.out _).mono ?_); rintro e v3 ⟨rfl, hb⟩; have hSv3 : v3.cell? ⟨w.heap.size, 0, none⟩ = some (.string A) ∧ v3.cell? ⟨w.heap.size, 1, none⟩ = some (.string B) ∧ Hid (Below w.heap.size w v3 ∧ Bk v3 w.heap.size #[.string A, .string B] 24) := gs_below hq hb; clear hq hb) | (go_at_call 15; have hq := ‹_ ∧ _›; (with_reducible refine (H4.out _).mono ?_); rintro e v4 ⟨rfl, hb⟩; have hSv4 : v4.cell? ⟨w.heap.size, 0, none⟩ = some (.string A) ∧ v4.cell? ⟨w.heap.size, 1, none⟩ = some (.string B) ∧ Hid (Below w.heap.size w v4 ∧ Bk v4 w.heap.size #[.string A, .string B] 24) := gs_below hq hb; clear hq hb) | (go_at_call 8; have hq := ‹_ ∧ _›; (with_reducible refine (HW.out _).mono ?_); rintro e v5 ⟨rfl, hb⟩; have hSv5 : v5.cell? ⟨w.heap.size, 0, none⟩ = some (.string A) ∧ v5.cell? ⟨w.heap.size, 1, none⟩ = some (.string B) ∧ Hid (Below w.heap.size w v5 ∧ Bk v5 w.heap.size #[.string A, .string B] 24) := gs_below hq hb; clear hq hb))
    all_goals
      obtain ⟨_, _, hk⟩ := ‹_ ∧ _›
      go_wp2
      go_ret
      exact ⟨rfl, hk.out.1⟩
theorem law_ghas (A B S : ByteArray) (w : World) (hA : A.size ≤ 9223372036854775807) (hB : B.size ≤ 9223372036854775807) (hS : S.size ≤ 9223372036854775807) :
    Calls Tryz.prog 4 #[.agg #[.string A, .string B], .string S] w (Made w (.bool true)) := by
  obtain ⟨b, hF, hb⟩ := few9_one A B S hA hB hS
  cases b with
  | false => exact ghas_no A B S w hF
  | true =>
    obtain ⟨h8, _⟩ := hb rfl
    rcases hv : (validB A && validB B && validB S) with _ | _
    · exact ghas_yes A B S false false w hF (fun W => has_no A B S W hA hB hS hv) (fun W => rhas_no A B S W hA hB hS hv) (fun W => isgen_false A B S W (fun W => has_no A B S W hA hB hS hv)) (fun W => risgen_false A B S W (fun W => rhas_no A B S W hA hB hS hv))
    · simp only [Bool.and_eq_true] at hv
      obtain ⟨⟨v1, v2⟩, v3⟩ := hv
      obtain ⟨p, hp, rfl⟩ := bs_of_valid v1
      obtain ⟨q, hq, rfl⟩ := bs_of_valid v2
      obtain ⟨x, hx, rfl⟩ := bs_of_valid v3
      rw [bs_le] at h8
      exact ghas_yes _ _ _ _ _ w hF (fun W => has_ok p q x W hp hq hx) (fun W => rhas_ok p q x W h8 hq hx) (fun W => isgen_ok p q x W hp hq hx) (fun W => risgen_ok p q x W h8 hq hx)
end Go.Proofs.YtmiafkbjmkaebaaGreat
