/-
  The law of dominolaw09.PrimegroupChecks.
-/
import Derived.Test.YtmiafkbjmkaebaaGreatPg
namespace Go.Proofs.YtmiafkbjmkaebaaGreat
open Go.RowKit Num


theorem gs_below2 {w w' w'' : World} {A B : ByteArray} (h : w'.cell? ⟨w.heap.size, 0, none⟩ = some (.string A) ∧ w'.cell? ⟨w.heap.size, 1, none⟩ = some (.string B) ∧ Hid (Below w.heap.size w w' ∧ Bk w' w.heap.size #[.string A, .string B] 24)) (hb : Below w'.heap.size w' w'') :
    w''.cell? ⟨w.heap.size, 0, none⟩ = some (.string A) ∧ w''.cell? ⟨w.heap.size, 1, none⟩ = some (.string B) ∧ Hid (Below w.heap.size w w'' ∧ Bk w'' w.heap.size #[.string A, .string B] 24) := by
  obtain ⟨h1, h2⟩ := h.2.2.out
  have K := h2.below hb
  exact ⟨K.cell 0, K.cell 1, Lib.hid ⟨h1.trans (hb.mono h1.size), K⟩⟩

set_option maxHeartbeats 1000000 in
set_option maxRecDepth 100000 in
theorem gchk_no (A B : ByteArray) (w : World) (hA : A.size ≤ 9223372036854775807) (hB : B.size ≤ 9223372036854775807) (h : 12 < A.size ∨ (A.size ≤ 12 ∧ 12 < B.size)) :
    Calls Tryz.prog 3 #[.agg #[.string A, .string B]] w (Made w (.bool true)) := by
  have HW := Lib.hid awake9
  rcases h with h | ⟨h, h'⟩
  · have hd : decide (12 < (A.size : Int)) = true := by simp; omega
    have HV : Below w.heap.size w (w.alloc (.cells #[.string A, .string B] 24)) := ((Below.refl w.heap.size w).alloc (Nat.le_refl _) (.cells #[.string A, .string B] 24))
    have K0 : Bk (w.alloc (.cells #[.string A, .string B] 24)) w.heap.size #[.string A, .string B] 24 := (Bk.new w #[.string A, .string B] 24)
    go_enter Tryz.func3, Tryz.ntmps3
    go_wp2_with fail
    refine (HW.out _).mono ?_
    rintro e u1 ⟨rfl, hb⟩
    replace HV := HV.trans (hb.mono HV.size)
    replace K0 := K0.below hb
    clear hb
    have c0_0 : u1.cell? ⟨w.heap.size, 0, none⟩ = some (.string A) := K0.cell 0
    have c0_1 : u1.cell? ⟨w.heap.size, 1, none⟩ = some (.string B) := K0.cell 1
    have l0 := K0.lt
    go_wp2
    go_ret
    exact ⟨rfl, HV⟩
  · have hd : decide (12 < (A.size : Int)) = false := by simp; omega
    have hd2 : decide (12 < (B.size : Int)) = true := by simp; omega
    have HV : Below w.heap.size w (w.alloc (.cells #[.string A, .string B] 24)) := ((Below.refl w.heap.size w).alloc (Nat.le_refl _) (.cells #[.string A, .string B] 24))
    have K0 : Bk (w.alloc (.cells #[.string A, .string B] 24)) w.heap.size #[.string A, .string B] 24 := (Bk.new w #[.string A, .string B] 24)
    go_enter Tryz.func3, Tryz.ntmps3
    go_wp2_with fail
    refine (HW.out _).mono ?_
    rintro e u1 ⟨rfl, hb⟩
    replace HV := HV.trans (hb.mono HV.size)
    replace K0 := K0.below hb
    clear hb
    have c0_0 : u1.cell? ⟨w.heap.size, 0, none⟩ = some (.string A) := K0.cell 0
    have c0_1 : u1.cell? ⟨w.heap.size, 1, none⟩ = some (.string B) := K0.cell 1
    have l0 := K0.lt
    go_wp2
    go_ret
    exact ⟨rfl, HV⟩
set_option maxHeartbeats 4000000 in
set_option maxRecDepth 100000 in
theorem gchk_yes (A B : ByteArray) (c : Int) (w : World) (hA : A.size ≤ 12) (hB : B.size ≤ 12)
    (h1 : ∀ W, Calls Tryz.prog 9 #[.agg #[.string A, .string B]] W (Made W (.int .i64 c))) (h2 : ∀ W, Calls Tryz.prog 10 #[.agg #[.string A, .string B]] W (Made W (.int .i64 c))) :
    Calls Tryz.prog 3 #[.agg #[.string A, .string B]] w (Made w (.bool true)) := by
  have hd : decide (12 < (A.size : Int)) = false := by simp; omega
  have hd2 : decide (12 < (B.size : Int)) = false := by simp; omega
  have H1 := Lib.hid h1
  have H2 := Lib.hid h2
  have HW := Lib.hid awake9
  clear hA hB h1 h2
  have HV : Below w.heap.size w (w.alloc (.cells #[.string A, .string B] 24)) := ((Below.refl w.heap.size w).alloc (Nat.le_refl _) (.cells #[.string A, .string B] 24))
  have K0 : Bk (w.alloc (.cells #[.string A, .string B] 24)) w.heap.size #[.string A, .string B] 24 := (Bk.new w #[.string A, .string B] 24)
  go_enter Tryz.func3, Tryz.ntmps3
  go_wp2_with fail
  go_region_held3 (fun w' => w'.cell? ⟨w.heap.size, 0, none⟩ = some (.string A) ∧ w'.cell? ⟨w.heap.size, 1, none⟩ = some (.string B) ∧ Hid (Below w.heap.size w w' ∧ Bk w' w.heap.size #[.string A, .string B] 24)) (first | assumption | exact ⟨K0.drew.cell 0, K0.drew.cell 1, Lib.hid ⟨HV.drew, K0.drew⟩⟩) (first | (go_at_call 9; have hq := ‹_ ∧ _›; (with_reducible refine (H1.out _).mono ?_); rintro e v1 ⟨rfl, hb⟩; have hSv1 : v1.cell? ⟨w.heap.size, 0, none⟩ = some (.string A) ∧ v1.cell? ⟨w.heap.size, 1, none⟩ = some (.string B) ∧ Hid (Below w.heap.size w v1 ∧ Bk v1 w.heap.size #[.string A, .string B] 24) := gs_below2 hq hb; clear hq hb) | (go_at_call 10; have hq := ‹_ ∧ _›; (with_reducible refine (H2.out _).mono ?_); rintro e v2 ⟨rfl, hb⟩; have hSv2 : v2.cell? ⟨w.heap.size, 0, none⟩ = some (.string A) ∧ v2.cell? ⟨w.heap.size, 1, none⟩ = some (.string B) ∧ Hid (Below w.heap.size w v2 ∧ Bk v2 w.heap.size #[.string A, .string B] 24) := gs_below2 hq hb; clear hq hb) | (go_at_call 8; have hq := ‹_ ∧ _›; (with_reducible refine (HW.out _).mono ?_); rintro e v3 ⟨rfl, hb⟩; have hSv3 : v3.cell? ⟨w.heap.size, 0, none⟩ = some (.string A) ∧ v3.cell? ⟨w.heap.size, 1, none⟩ = some (.string B) ∧ Hid (Below w.heap.size w v3 ∧ Bk v3 w.heap.size #[.string A, .string B] 24) := gs_below2 hq hb; clear hq hb))
  all_goals
    obtain ⟨_, _, hk⟩ := ‹_ ∧ _›
    go_wp2
    go_ret
    exact ⟨rfl, hk.out.1⟩
theorem law_gchk (A B : ByteArray) (w : World) (hA : A.size ≤ 9223372036854775807) (hB : B.size ≤ 9223372036854775807) :
    Calls Tryz.prog 3 #[.agg #[.string A, .string B]] w (Made w (.bool true)) := by
  by_cases h1 : A.size ≤ 12
  · by_cases h2 : B.size ≤ 12
    · rcases hv : (validB A && validB B) with _ | _
      · exact gchk_yes A B 3 w h1 h2 (fun W => pchk_form A B W hA hB hv) (fun W => rchk9_form A B W hA hB hv)
      · simp only [Bool.and_eq_true] at hv
        obtain ⟨p, hp, rfl⟩ := bs_of_valid hv.1
        obtain ⟨q, hq, rfl⟩ := bs_of_valid hv.2
        exact gchk_yes _ _ _ w h1 h2 (fun W => pchk_ok p q W hp hq) (fun W => rchk9_ok p q W hp hq)
    · exact gchk_no A B w hA hB (.inr ⟨h1, by omega⟩)
  · exact gchk_no A B w hA hB (.inl (by omega))
end Go.Proofs.YtmiafkbjmkaebaaGreat
